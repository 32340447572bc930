/-
  same (printed by gen_c4.py).
-/
import Derived.Test.YthmbpddpdbkioaaCTurn
import Derived.Test.YthmbpddpdbkioaaCReadM
namespace Go.Proofs.Ythmbpddpdbkioaa
open Go.RowKit S
set_option linter.unusedVariables false
set_option linter.unusedSimpArgs false
open Cu (nb be hl ofL CW Mw CR Mr)
/-- An answer that tells P. -/
def BoolIf (B : Nat) (P : Prop) (w : World) (e : Ending) (w' : World) : Prop := ∃ R, e = .returned (.bool R) ∧ (R = true ↔ P) ∧ Below B w w'
theorem boolIf {B : Nat} {P : Prop} {w : World} {e : Ending} {w' : World} (R : Bool) (h1 : e = .returned (.bool R)) (h2 : R = true ↔ P) (h3 : Below B w w') : BoolIf B P w e w' := ⟨R, h1, h2, h3⟩
theorem run_neP {o : Oper} {a : Act} (w : World) (x y : Operand) (s t : Pen) (R : Bool) (ho : o.op = .binOp .neq 36 x y 36) (hx : a.eval x = .agg (tabv s.v 35)) (hy : a.eval y = .agg (tabv t.v 35))
    (hq : ∀ w : World, (Op.equalIn 10000 36 (.agg (tabv s.v 35)) (.agg (tabv t.v 35))).run Try.prog w = .ok R w) : (execOp a.eval o).run Try.prog w = .ok (.value (.bool (!R))) w := by
  have gh := guardP
  unfold execOp
  simp only [ho, hx, hy]
  go_simp
set_option maxRecDepth 100000 in
set_option maxHeartbeats 4000000 in
theorem same_any (x1 y1 x2 y2 : Int) (a1 a2 : Option Addr) (n1 c1 n2 c2 : Nat) (l1 l2 : List Pen) (hn1 : l1.length = n1) (hn2 : l2.length = n2) (hz1 : n1 ≤ 3910000000000) (hz2 : n2 ≤ 3910000000000) (w : World) (hS1 : Pens w a1 l1) (hS2 : Pens w a2 l2) : Calls Try.prog 8 #[.agg (tabv (ledv x1 y1 (.slice a1 n1 c1)) 3), .agg (tabv (ledv x2 y2 (.slice a2 n2 c2)) 3)] w fun e w' => BoolIf w.heap.size (x1 = x2 ∧ y1 = y2 ∧ eqL l1 l2) w e w' := by
  obtain ⟨wa, hWa⟩ : ∃ wX, w.alloc (.cells (tabv (ledv x1 y1 (.slice a1 n1 c1)) 3) 24) = wX := ⟨_, rfl⟩
  have r1 : Has wa w.heap.size 24 (ledv x1 y1 (.slice a1 n1 c1)) 3 := by rw [← hWa]; exact Has.new w 24 (ledv x1 y1 (.slice a1 n1 c1)) 3 _ rfl
  have ba : Below w.heap.size w wa := by rw [← hWa]; exact (Below.refl w.heap.size w).alloc (Nat.le_refl _) _
  obtain ⟨w2, hWb⟩ : ∃ wX, wa.alloc (.cells (tabv (ledv x2 y2 (.slice a2 n2 c2)) 3) 24) = wX := ⟨_, rfl⟩
  have r2 : Has w2 wa.heap.size 24 (ledv x2 y2 (.slice a2 n2 c2)) 3 := by rw [← hWb]; exact Has.new wa 24 (ledv x2 y2 (.slice a2 n2 c2)) 3 _ rfl
  have bb : Below wa.heap.size wa w2 := by rw [← hWb]; exact (Below.refl wa.heap.size wa).alloc (Nat.le_refl _) _
  have gb : Below w.heap.size w w2 := ba.trans (bb.mono ba.size)
  have k1 := r1.below bb r1.lt
  have c0 : w2.cell? ⟨w.heap.size, 0, none⟩ = some (.int .i64 x1) := k1.cell 0 (by omega)
  have c1' : w2.cell? ⟨w.heap.size, 1, none⟩ = some (.int .i64 y1) := k1.cell 1 (by omega)
  have c2' : w2.cell? ⟨w.heap.size, 2, none⟩ = some (.slice a1 n1 c1) := k1.cell 2 (by omega)
  have e0 : w2.cell? ⟨wa.heap.size, 0, none⟩ = some (.int .i64 x2) := r2.cell 0 (by omega)
  have e1 : w2.cell? ⟨wa.heap.size, 1, none⟩ = some (.int .i64 y2) := r2.cell 1 (by omega)
  have e2 : w2.cell? ⟨wa.heap.size, 2, none⟩ = some (.slice a2 n2 c2) := r2.cell 2 (by omega)
  obtain ⟨PP, hPP⟩ : ∃ PP : Prop, (x1 = x2 ∧ y1 = y2 ∧ eqL l1 l2) = PP := ⟨_, rfl⟩
  have HPP : Hid (PP ↔ (x1 = x2 ∧ y1 = y2 ∧ eqL l1 l2)) := by rw [← hPP]; exact Iff.rfl
  rw [hPP]
  clear hPP
  have HS1 := hide (hS1.below gb)
  have HS2 := hide (hS2.below gb)
  have HN1 := hide hn1
  have HN2 := hide hn2
  have hz1i : (n1 : Int) ≤ 3910000000000 := by omega
  have hz2i : (n2 : Int) ≤ 3910000000000 := by omega
  clear r1 r2 ba bb k1 hS1 hS2 hn1 hn2 hz1 hz2
  go_enter Try.func8, Try.ntmps8
  go_upto_region 1 with fail
  generalize hg1 : w.heap.size = g1 at c0 c1' c2' gb ⊢
  have HGB := hide gb
  have HG1 : Hid (g1 < w2.heap.size) := World.block_lt_of_cell? _ _ c0
  clear gb
  generalize hg2 : wa.heap.size = g2 at e0 e1 e2 ⊢
  clear hWa hWb hg2
  by_cases dx : x1 ≠ x2
  · skip
    have hb : (x1 == x2) = false := beq_false_of_ne dx
    have hb2 : (x1 != x2) = true := bne_iff_ne.2 dx
    go_wp2
    go_ret
    exact boolIf false rfl ⟨(fun h => by cases h), fun hh => absurd (by have h := HPP.out.1 hh; exact h.1) dx⟩ (by first | exact HGB.out | (rw [hg1]; exact HGB.out))
  obtain dx := Classical.not_not.1 dx
  subst dx
  by_cases dy : y1 ≠ y2
  · skip
    have hb : (y1 == y2) = false := beq_false_of_ne dy
    have hb2 : (y1 != y2) = true := bne_iff_ne.2 dy
    go_wp2
    go_ret
    exact boolIf false rfl ⟨(fun h => by cases h), fun hh => absurd (by have h := HPP.out.1 hh; exact h.2.1) dy⟩ (by first | exact HGB.out | (rw [hg1]; exact HGB.out))
  obtain dy := Classical.not_not.1 dy
  subst dy
  by_cases dn : n1 ≠ n2
  · have hbn : ((n1 : Int) == (n2 : Int)) = false := beq_false_of_ne (by omega)
    have hbn2 : ((n1 : Int) != (n2 : Int)) = true := bne_iff_ne.2 (by omega)
    have hb : (n1 == n2) = false := beq_false_of_ne dn
    have hb2 : (n1 != n2) = true := bne_iff_ne.2 dn
    go_wp2
    go_ret
    exact boolIf false rfl ⟨(fun h => by cases h), fun hh => absurd (by have h := HPP.out.1 hh; exact (by rw [← HN1.out, ← HN2.out]; exact h.2.2.1)) dn⟩ (by first | exact HGB.out | (rw [hg1]; exact HGB.out))
  obtain dn := Classical.not_not.1 dn
  subst dn
  go_wp2
  clear c0 c1' e0 e1
  go_loopw [5] (fun ix wr => ∃ j : Nat, j ≤ n1 ∧ ix = .int .i64 (j : Int) ∧ Hid (∀ (i : Nat) (p q : Pen), i < j → l1[i]? = some p → l2[i]? = some q → eqP p q = true) ∧ Below w2.heap.size w2 wr) (fun ix _ => n1 - (intOf ix).toNat)
  case atStart => exact ⟨0, Nat.zero_le _, rfl, (fun i p q hi => absurd hi (by omega)), Below.refl _ _⟩
  case round =>
    obtain ⟨j, hj, rfl, HG, gbr⟩ := hrel
    obtain ⟨n, hn⟩ : ∃ n, n1 = n := ⟨_, rfl⟩
    subst hn
    have cLg1 : wr.cell? ⟨g1, 2, none⟩ = some (.slice a1 n1 c1) := (gbr.cell (World.block_lt_of_cell? _ _ c2')).trans c2'
    have cLg2 : wr.cell? ⟨g2, 2, none⟩ = some (.slice a2 n1 c2) := (gbr.cell (World.block_lt_of_cell? _ _ e2)).trans e2
    by_cases hlt : j < n1
    · have hd : decide ((j : Int) < (n1 : Int)) = true := decide_eq_true (by omega)
      have hd2 : decide (j < n1) = true := decide_eq_true hlt
      have hk0 : (0 : Int) ≤ (j : Int) := by omega
      have hk1 : (j : Int) < (n1 : Int) := by omega
      obtain ⟨p, hp⟩ : ∃ p, l1[j]? = some p := ⟨_, List.getElem?_eq_getElem (by rw [HN1.out]; exact hlt)⟩
      obtain ⟨q, hq⟩ : ∃ q, l2[j]? = some q := ⟨_, List.getElem?_eq_getElem (by rw [HN2.out]; exact hlt)⟩
      obtain ⟨b1, o1, rfl, hb1, hA1⟩ := (HS1.out.below gbr).get j p hp
      obtain ⟨b2, o2, rfl, hb2, hA2⟩ := (HS2.out.below gbr).get j q hq
      have HA1 := hide hA1
      have HA2 := hide hA2
      have HB1 := hide hb1
      have HB2 := hide hb2
      have HP := hide hp
      have HQ := hide hq
      have HJ := hide hlt
      obtain ⟨E, hE⟩ : ∃ E, eqP p q = E := ⟨_, rfl⟩
      have HE := hide hE
      clear hp hq hA1 hA2 hb1 hb2 hE
      go_wp2
      refine wp_region_noPanic ?_
      refine wp_region_held_drew (S := fun wx => Below wr.heap.size wr wx) (by kernel_rfl) ((Below.refl _ _).drew) (fun hHeld => ?_)
      refine takeH 0 (some 34) (.pointer (some ⟨g1, 2, none⟩)) rfl rfl (by kernel_rfl) (by kernel_rfl) (by kernel_rfl) (fun _ _ _ h => h) (by rfl) (fun w hw => by first | rfl | (go_simp; done) | (go_simp; rfl) | (go_simp; omega)) hHeld ?_
      simp only [Act.put, List.setIfInBounds_toArray, List.set_cons_zero, List.set_cons_succ]
      refine takeH 1 (some 35) (.slice (some ⟨b1, o1, none⟩) n1 c1) rfl rfl (by kernel_rfl) (by kernel_rfl) (by kernel_rfl) (fun _ _ _ h => h) (by rfl) (fun w hw => by have c : w.cell? ⟨g1, 2, none⟩ = some (.slice (some ⟨b1, o1, none⟩) n1 c1) := (hw.cell (World.block_lt_of_cell? _ _ cLg1)).trans cLg1; first | (go_simp; done) | (go_simp; rfl)) hHeld ?_
      simp only [Act.put, List.setIfInBounds_toArray, List.set_cons_zero, List.set_cons_succ]
      refine takeH 2 (some 36) (.int .i64 (j : Int)) rfl rfl (by kernel_rfl) (by kernel_rfl) (by kernel_rfl) (fun _ _ _ h => h) (by rfl) (fun w hw => by first | rfl | (go_simp; done) | (go_simp; rfl) | (go_simp; omega)) hHeld ?_
      simp only [Act.put, List.setIfInBounds_toArray, List.set_cons_zero, List.set_cons_succ]
      refine takeH 3 (some 37) (.pointer (some ⟨b1, o1 + j * 35, none⟩)) rfl rfl (by kernel_rfl) (by kernel_rfl) (by kernel_rfl) (fun _ _ _ h => h) (by rfl) (fun w hw => by have p0 := hk0; have p1 := hk1; first | rfl | (go_simp; done) | (go_simp; rfl) | (go_simp; omega)) hHeld ?_
      simp only [Act.put, List.setIfInBounds_toArray, List.set_cons_zero, List.set_cons_succ]
      refine takeH 4 (some 38) (.agg (tabv p.v 35)) rfl rfl (by kernel_rfl) (by kernel_rfl) (by kernel_rfl) (fun _ _ _ h => h) (by rfl) (fun w hw => run_load_at w 36 _ rfl b1 (o1 + j * 35) (by rfl) _ 35 _ (HA1.out.below hw HB1.out) Try.underlying36 rfl infoP) hHeld ?_
      simp only [Act.put, List.setIfInBounds_toArray, List.set_cons_zero, List.set_cons_succ]
      refine takeH 5 (some 39) (.pointer (some ⟨g2, 2, none⟩)) rfl rfl (by kernel_rfl) (by kernel_rfl) (by kernel_rfl) (fun _ _ _ h => h) (by rfl) (fun w hw => by first | rfl | (go_simp; done) | (go_simp; rfl) | (go_simp; omega)) hHeld ?_
      simp only [Act.put, List.setIfInBounds_toArray, List.set_cons_zero, List.set_cons_succ]
      refine takeH 6 (some 40) (.slice (some ⟨b2, o2, none⟩) n1 c2) rfl rfl (by kernel_rfl) (by kernel_rfl) (by kernel_rfl) (fun _ _ _ h => h) (by rfl) (fun w hw => by have c : w.cell? ⟨g2, 2, none⟩ = some (.slice (some ⟨b2, o2, none⟩) n1 c2) := (hw.cell (World.block_lt_of_cell? _ _ cLg2)).trans cLg2; first | (go_simp; done) | (go_simp; rfl)) hHeld ?_
      simp only [Act.put, List.setIfInBounds_toArray, List.set_cons_zero, List.set_cons_succ]
      refine takeH 7 (some 41) (.int .i64 (j : Int)) rfl rfl (by kernel_rfl) (by kernel_rfl) (by kernel_rfl) (fun _ _ _ h => h) (by rfl) (fun w hw => by first | rfl | (go_simp; done) | (go_simp; rfl) | (go_simp; omega)) hHeld ?_
      simp only [Act.put, List.setIfInBounds_toArray, List.set_cons_zero, List.set_cons_succ]
      refine takeH 8 (some 42) (.pointer (some ⟨b2, o2 + j * 35, none⟩)) rfl rfl (by kernel_rfl) (by kernel_rfl) (by kernel_rfl) (fun _ _ _ h => h) (by rfl) (fun w hw => by have p0 := hk0; have p1 := hk1; first | rfl | (go_simp; done) | (go_simp; rfl) | (go_simp; omega)) hHeld ?_
      simp only [Act.put, List.setIfInBounds_toArray, List.set_cons_zero, List.set_cons_succ]
      refine takeH 9 (some 43) (.agg (tabv q.v 35)) rfl rfl (by kernel_rfl) (by kernel_rfl) (by kernel_rfl) (fun _ _ _ h => h) (by rfl) (fun w hw => run_load_at w 36 _ rfl b2 (o2 + j * 35) (by rfl) _ 35 _ (HA2.out.below hw HB2.out) Try.underlying36 rfl infoP) hHeld ?_
      simp only [Act.put, List.setIfInBounds_toArray, List.set_cons_zero, List.set_cons_succ]
      refine takeH 10 (some 44) (.bool (!E)) rfl rfl (by kernel_rfl) (by kernel_rfl) (by kernel_rfl) (fun _ _ _ h => h) (by rfl) (fun w hw => run_neP w _ _ p q E rfl (by rfl) (by rfl) (fun w => by rw [eqPD, HE.out])) hHeld ?_
      simp only [Act.put, List.setIfInBounds_toArray, List.set_cons_zero, List.set_cons_succ]
      refine ⟨by kernel_rfl, ?_⟩
      refine NoPanic.normal ?_
      have gb8 := gbr.trans (hHeld.mono gbr.size)
      clear hHeld
      cases E with
      | true =>
        try go_wp2
        go_roundw
        case rel => exact ⟨j + 1, by have := HJ.out; omega, by go_num, (fun i a b hi ha hb => by rcases Nat.lt_succ_iff_lt_or_eq.1 hi with h | rfl; exact HG.out i a b h ha hb; rw [HP.out] at ha; rw [HQ.out] at hb; obtain rfl := Option.some.inj ha; obtain rfl := Option.some.inj hb; exact HE.out), gb8⟩
        case measure => have := HJ.out; simp [intOf]; omega
      | false =>
        try go_wp2
        go_ret
        exact boolIf false rfl ⟨(fun h => by cases h), fun hh => by have h := HPP.out.1 hh; have := h.2.2.2 j p q HP.out HQ.out; rw [HE.out] at this; cases this⟩ (by first | exact (HGB.out.trans (gb8.mono (Nat.le_of_lt HG1.out))) | (rw [hg1]; exact (HGB.out.trans (gb8.mono (Nat.le_of_lt HG1.out)))))
    · have hjn : j = n1 := by omega
      subst hjn
      have hd : decide ((j : Int) < (j : Int)) = false := decide_eq_false (by omega)
      have hd2 : decide (j < j) = false := decide_eq_false (by omega)
      go_wp2
      go_ret
      exact boolIf true rfl ⟨fun _ => HPP.out.2 ⟨by trivial, by trivial, by rw [HN1.out, HN2.out], fun i p q hp hq => HG.out i p q (by have := (List.getElem?_eq_some_iff.1 hp).1; rw [HN1.out] at this; exact this) hp hq⟩, fun _ => rfl⟩ (by first | exact (HGB.out.trans (gbr.mono (Nat.le_of_lt HG1.out))) | (rw [hg1]; exact (HGB.out.trans (gbr.mono (Nat.le_of_lt HG1.out)))))
end Go.Proofs.Ythmbpddpdbkioaa
