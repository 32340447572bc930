import Derived.Test.YtdffmmiegpndkaaGreatDoorWRead
import Derived.Test.YtdffmmiegpndkaaGreatDoorWFind
import Derived.BigRegion
import Derived.BigQuiet
import Derived.WalkArith
/-
  Next, place: where the next frame goes.
-/
namespace Go.Proofs.YtdffmmiegpndkaaGreatDoor
open Go.RowKit Go.Maps
set_option linter.unusedVariables false
def placeA (g : AL) (n : Int) : ASeg × Bool := match g.segs.getLast? with
  | none => (⟨0, 0, 0⟩, true)
  | some s => if 0 < s.size ∧ g.room < s.size + n then (⟨s.num + 1, 0, 0⟩, true) else (s, false)
def ASeg.val (s : ASeg) : Value := .agg #[.int .i64 s.num, .int .i64 s.size, .int .i64 s.fin]
section
variable {B : Nat} {w : World} {L : List Item} {q b : Nat} {x0 x1 x2 : Value} {T : TypeId}
/-- A struct of three cells is stored anew. -/
theorem Lies.set3 (h : Lies B w L) (hq : L[q]? = some (.block b (.cells #[x0, x1, x2] T (0, 0)))) (y0 y1 y2 : Value) {w' : World} (hw : ((w.setCell ⟨b, 0, none⟩ y0).setCell ⟨b, 1, none⟩ y1).setCell ⟨b, 2, none⟩ y2 = w') : Lies B w' (L.set q (.block b (.cells #[y0, y1, y2] T (0, 0)))) ∧ Below B w w' := by
  have hql := (List.getElem?_eq_some_iff.1 hq).1
  obtain ⟨h1, b1⟩ := h.setAt hq 0 y0
  obtain ⟨h2, b2⟩ := h1.setAt (List.getElem?_set_self hql) 1 y1
  obtain ⟨h3, b3⟩ := h2.setAt (by rw [List.set_set]; exact List.getElem?_set_self hql) 2 y2
  rw [List.set_set, List.set_set] at h3
  rw [← hw]
  exact ⟨h3, (b1.trans b2).trans b3⟩
theorem Lies.get3 (h : Lies B w L) (hq : L[q]? = some (.block b (.cells #[x0, x1, x2] T (0, 0)))) : (w.cell? ⟨b, 0, none⟩ = some x0 ∧ w.cell? ⟨b, 1, none⟩ = some x1 ∧ w.cell? ⟨b, 2, none⟩ = some x2) ∧ ∀ k, w.frozen? ⟨b, k, none⟩ = false :=
  ⟨⟨h.cellAt hq 0, h.cellAt hq 1, h.cellAt hq 2⟩, fun k => h.frozenAt hq k⟩
end
theorem seg3 {w : World} {l p b off n cap : Nat} {g : AL} {r : Option Nat} (hat : LogAt w l p g (.slice (some ⟨b, off, none⟩) n cap) r) (k : Nat) {s : ASeg} (hs : g.segs[k]? = some s) : b < w.heap.size ∧ n = g.segs.length ∧ (w.cell? ⟨b, off + k * 3, none⟩ = some (.int .i64 s.num) ∧ w.cell? ⟨b, off + k * 3 + 1, none⟩ = some (.int .i64 s.size) ∧ w.cell? ⟨b, off + k * 3 + 2, none⟩ = some (.int .i64 s.fin)) ∧ ∀ q, w.frozen? ⟨b, q, none⟩ = false := by
  obtain ⟨ad, cp, hv, hle, hrow⟩ := hat.row
  cases hv
  rcases hrow with ⟨h1, _⟩ | ⟨b', off', h1, hr, hbl, hcs, hsm, hfz⟩
  · cases h1
  cases h1
  obtain ⟨hk, rfl⟩ := List.getElem?_eq_some_iff.1 hs
  have e : ∀ c, c < 3 → w.cell? ⟨b, off + k * 3 + c, none⟩ = (g.segs[k]).cs[c]? := fun c hc => by
    rw [show off + k * 3 + c = off + (3 * k + c) by omega, hcs (3 * k + c) (by omega), cellsG_get _ _ hk _ hc]
  exact ⟨hbl, rfl, ⟨e 0 (by omega), e 1 (by omega), e 2 (by omega)⟩, hfz⟩
section
variable {B : Nat} {w : World} {L : List Item} {i j l p : Nat} {A : AD} {g : AL}
theorem wnext_any (h : Lies B w L) (hj : L[j]? = some (.log l p g)) : Calls Tryz.prog 17 #[.pointer (some ⟨l, 0, none⟩)] w fun e w' => e = .returned (.int .i64 g.next) ∧ w' = w := by
  obtain ⟨v0, r0, hat0, hBl⟩ := h.logAt hj
  have c4 := hat0.c4
  go_enter Tryz.func17, Tryz.ntmps17
  go_wp2
  go_ret
  exact ⟨rfl, rfl⟩
set_option maxRecDepth 100000 in
set_option maxHeartbeats 2000000 in
theorem place_any (h : Lies B w L) (hj : L[j]? = some (.log l p g)) (n : Int) (hn : 0 ≤ n ∧ n ≤ 1000000) (hs : ∀ s ∈ g.segs, (0 ≤ s.size ∧ s.size ≤ 100000000) ∧ (0 ≤ s.num ∧ s.num ≤ 100000000)) (hlen : g.segs.length ≤ 100000000) : Calls Tryz.prog 26 #[.pointer (some ⟨l, 0, none⟩), .int .i64 n] w fun e w' => e = .returned (.tuple #[(placeA g n).1.val, .bool (placeA g n).2]) ∧ Below w.heap.size w w' := by
  obtain ⟨v0, r0, hat0, hBl⟩ := h.logAt hj
  obtain ⟨PA, hPA⟩ : ∃ x, placeA g n = x := ⟨_, rfl⟩
  rw [hPA]
  have c3 := hat0.c3
  have c2 := hat0.c2
  obtain ⟨ad, cap, b, off, hv, had⟩ := form_of hat0
  subst hv
  have hz := Lies.nil (Nat.le_refl w.heap.size)
  obtain ⟨g1, hg1⟩ : ∃ x, w.heap.size = x := ⟨_, rfl⟩
  obtain ⟨w1, hw1⟩ : ∃ x, w.alloc (.cells #[.int .i64 0, .int .i64 0, .int .i64 0] 66) = x := ⟨_, rfl⟩
  obtain ⟨hl1, hb1⟩ := hz.newCells #[.int .i64 0, .int .i64 0, .int .i64 0] 66
  rw [hw1] at hl1 hb1
  have hlt : l < w.heap.size := lt_of_some hat0.cells
  obtain ⟨⟨z0, z1, z2⟩, zf⟩ := hl1.get3 (q := 0) rfl
  have zf0 := zf 0
  have zf1 := zf 1
  have zf2 := zf 2
  rw [hg1] at hl1 hb1 z0 z1 z2 zf0 zf1 zf2 hlt ⊢
  obtain ⟨N, hN⟩ : ∃ n, g.segs.length = n := ⟨_, rfl⟩
  rcases Nat.eq_zero_or_pos N with h0 | h0
  · have hp : placeA g n = (⟨0, 0, 0⟩, true) := by unfold placeA; rw [List.eq_nil_of_length_eq_zero (hN.trans h0)]; rfl
    rw [hN] at c3
    subst h0
    rw [← hPA, hp]
    have c31 : w1.cell? ⟨l, 3, none⟩ = some (.slice ad 0 cap) := (World.cell?_of_block (hb1.block l hlt)).trans c3
    obtain ⟨w2, hw2⟩ : ∃ x, ((w1.setCell ⟨g1, 0, none⟩ (.int .i64 0)).setCell ⟨g1, 1, none⟩ (.int .i64 0)).setCell ⟨g1, 2, none⟩ (.int .i64 0) = x := ⟨_, rfl⟩
    obtain ⟨hl2, hb2⟩ := hl1.set3 (q := 0) rfl _ _ _ hw2
    obtain ⟨⟨y0, y1, y2⟩, _⟩ := hl2.get3 (q := 0) rfl
    have HB := hide (hb1.trans hb2)
    clear zf hat0 had hs hlen h hj hb1 hb2 hl1 hl2 hz
    go_enter Tryz.func26, Tryz.ntmps26
    go_wp2
    exact bodyPost_ret (v := .tuple #[ASeg.val ⟨0, 0, 0⟩, .bool true]) (by simp [results, Tryz.f26, go_sem, y0, y1, y2, ASeg.val]) rfl ⟨rfl, HB.out⟩
  · obtain ⟨m, rfl⟩ : ∃ m, N = m + 1 := ⟨N - 1, by omega⟩
    obtain rfl := had (by omega)
    have hm : m < g.segs.length := by omega
    obtain ⟨s, hs1⟩ : ∃ s, g.segs[m] = s := ⟨_, rfl⟩
    have hlast : g.segs.getLast? = some s := by rw [List.getLast?_eq_getElem?, hN, Nat.add_sub_cancel, List.getElem?_eq_getElem hm, hs1]
    have hsr := hs s (List.mem_of_getLast? hlast)
    obtain ⟨⟨s0, s1⟩, s2, s3⟩ := hsr
    obtain ⟨hbl, _, ⟨d0, d1, d2⟩, _⟩ := seg3 hat0 m (s := s) (by rw [List.getElem?_eq_getElem hm, hs1])
    rw [hN] at c3
    rw [hg1] at hbl
    have c31 := (World.cell?_of_block (a := ⟨l, 3, none⟩) (hb1.block l hlt)).trans c3
    have c21 := (World.cell?_of_block (a := ⟨l, 2, none⟩) (hb1.block l hlt)).trans c2
    have d01 := (World.cell?_of_block (a := ⟨b, off + m * 3, none⟩) (hb1.block b hbl)).trans d0
    have d11 := (World.cell?_of_block (a := ⟨b, off + m * 3 + 1, none⟩) (hb1.block b hbl)).trans d1
    have d21 := (World.cell?_of_block (a := ⟨b, off + m * 3 + 2, none⟩) (hb1.block b hbl)).trans d2
    have q1 : (((m + 1 : Nat) : Int) == 0) = false := by simpa using (show ((m + 1 : Nat) : Int) ≠ 0 by omega)
    have hmle : m + 1 ≤ 100000000 := by omega
    clear zf hat0 had hs hlen h hj hz c3 c2 d0 d1 d2
    obtain ⟨V0, hV0⟩ : ∃ x, w1.drew = x := ⟨_, rfl⟩
    obtain ⟨g2, hg2⟩ : ∃ x, V0.heap.size = x := ⟨_, rfl⟩
    obtain ⟨V1, hV1⟩ : ∃ x, V0.alloc (.cells #[.int .i64 0, .int .i64 0, .int .i64 0] 66) = x := ⟨_, rfl⟩
    obtain ⟨V2, hV2⟩ : ∃ x, ((V1.setCell ⟨g2, 0, none⟩ (.int .i64 s.num)).setCell ⟨g2, 1, none⟩ (.int .i64 s.size)).setCell ⟨g2, 2, none⟩ (.int .i64 s.fin) = x := ⟨_, rfl⟩
    have hv0 := hl1.same (w' := w1.drew) (Nat.le_refl _) (fun _ _ _ => rfl)
    rw [hV0] at hv0
    have hvb0 : Below g1 w V0 := by rw [← hV0]; exact hb1.drew
    obtain ⟨hv1, hvb1⟩ := hv0.newCells #[.int .i64 0, .int .i64 0, .int .i64 0] 66
    rw [hV1, hg2] at hv1
    rw [hV1] at hvb1
    obtain ⟨⟨e0, e1, e2⟩, ef⟩ := hv1.get3 (q := 1) rfl
    have ef0 := ef 0
    have ef1 := ef 1
    have ef2 := ef 2
    obtain ⟨hv2, hvb2⟩ := hv1.set3 (q := 1) rfl _ _ _ hV2
    obtain ⟨⟨a0, a1, a2⟩, _⟩ := hv2.get3 (q := 1) rfl
    obtain ⟨⟨y0, y1, y2⟩, yf⟩ := hv2.get3 (q := 0) rfl
    have yf0 := yf 0
    have yf1 := yf 1
    have yf2 := yf 2
    have HS0 : Hid (∀ (q k : Nat), q < g1 → V0.cell? ⟨q, k, none⟩ = w1.cell? ⟨q, k, none⟩) := fun q k hq => by rw [← hV0]; rfl
    have HS1 : Hid (∀ (q k : Nat), q < g1 → V1.cell? ⟨q, k, none⟩ = w1.cell? ⟨q, k, none⟩) := fun q k hq => (World.cell?_of_block (hvb1.block q hq)).trans (HS0.out q k hq)
    have HS2 : Hid (∀ (q k : Nat), q < g1 → V2.cell? ⟨q, k, none⟩ = w1.cell? ⟨q, k, none⟩) := fun q k hq => (World.cell?_of_block (hvb2.block q hq)).trans (HS1.out q k hq)
    have c22 := (HS2.out l 2 hlt).trans c21
    have q3 : ((m + 1 : Nat) : Int) - 1 = (m : Int) := by omega
    have q2 : IntKind.i64.wrap (m : Int) = (m : Int) := by rw [IntKind.wrap_i64]; omega
    have HVB := hide ((hvb0.trans hvb1).trans hvb2)
    have HV0 := hide hV0
    clear hV0 hl1 hb1 hv0 hv1 hvb0 hvb1 hvb2 ef yf
    go_enter Tryz.func26, Tryz.ntmps26
    go_wp2
    refine wp_region_noPanic ?_
    refine wp_region_held_drew (S := fun wx => wx.cell? ⟨l, 3, none⟩ = some (.slice (some ⟨b, off, none⟩) (m + 1) cap) ∧ wx.cell? ⟨b, off + m * 3, none⟩ = some (.int .i64 s.num) ∧ wx.cell? ⟨b, off + m * 3 + 1, none⟩ = some (.int .i64 s.size) ∧ wx.cell? ⟨b, off + m * 3 + 2, none⟩ = some (.int .i64 s.fin)) (by kernel_rfl) (by rw [HV0.out]; exact ⟨(HS0.out l _ hlt).trans c31, (HS0.out b _ hbl).trans d01, (HS0.out b _ hbl).trans d11, (HS0.out b _ hbl).trans d21⟩) (fun hHeld => ?_)
    rw [HV0.out] at hHeld ⊢
    refine tK 0 (some 14) (.pointer (some ⟨l, 0, none⟩)) rfl hHeld ?_
    simp only [Act.put, pA, pB, pC]
    refine tK 1 (some 15) (.pointer (some ⟨l, 0, none⟩)) rfl hHeld ?_
    simp only [Act.put, pA, pB, pC]
    refine tK 2 (some 16) (.pointer (some ⟨l, 3, none⟩)) rfl hHeld ?_
    simp only [Act.put, pA, pB, pC]
    refine tH 3 (some 17) (.slice (some ⟨b, off, none⟩) (m + 1) cap) rfl (fun w hw => by obtain ⟨hw1, hw2, hw3, hw4⟩ := hw; first | rfl | (go_simp; done) | (go_simp; rfl)) hHeld ?_
    simp only [Act.put, pA, pB, pC]
    refine tK 4 (some 18) (.pointer (some ⟨l, 0, none⟩)) rfl hHeld ?_
    simp only [Act.put, pA, pB, pC]
    refine tK 5 (some 19) (.pointer (some ⟨l, 0, none⟩)) rfl hHeld ?_
    simp only [Act.put, pA, pB, pC]
    refine tK 6 (some 20) (.pointer (some ⟨l, 3, none⟩)) rfl hHeld ?_
    simp only [Act.put, pA, pB, pC]
    refine tH 7 (some 21) (.slice (some ⟨b, off, none⟩) (m + 1) cap) rfl (fun w hw => by obtain ⟨hw1, hw2, hw3, hw4⟩ := hw; first | rfl | (go_simp; done) | (go_simp; rfl)) hHeld ?_
    simp only [Act.put, pA, pB, pC]
    refine tK 8 (some 22) (.int .i64 ((m + 1 : Nat) : Int)) rfl hHeld ?_
    simp only [Act.put, pA, pB, pC]
    refine tH 9 (some 23) (.int .i64 (m : Int)) rfl (fun w hw => by first | rfl | (go_simp; done) | (go_simp; rfl) | (go_simp; exact q2)) hHeld ?_
    simp only [Act.put, pA, pB, pC]
    refine tH 10 (some 24) (.pointer (some ⟨b, off + m * 3, none⟩)) rfl (fun w hw => by first | rfl | (go_simp; done) | (go_simp; rfl) | (go_simp; intro hbad; exfalso; omega)) hHeld ?_
    simp only [Act.put, pA, pB, pC]
    refine tH 11 (some 25) (.agg #[.int .i64 s.num, .int .i64 s.size, .int .i64 s.fin]) rfl (fun w hw => by obtain ⟨hw1, hw2, hw3, hw4⟩ := hw; first | rfl | (go_simp; done) | (go_simp; rfl)) hHeld ?_
    simp only [Act.put, pA, pB, pC]
    refine rdH 12 rfl (fun K hK => ?_)
    go_simp
    try rw [hV1]
    refine hK.out _ _ (⟨(HS1.out l _ hlt).trans c31, (HS1.out b _ hbl).trans d01, (HS1.out b _ hbl).trans d11, (HS1.out b _ hbl).trans d21⟩) (fun hH => ?_)
    clear hK K hHeld
    have hHeld := hH
    clear hH
    refine rdH 13 rfl (fun K hK => ?_)
    go_simp
    try rw [hV2]
    refine hK.out _ _ (⟨(HS2.out l _ hlt).trans c31, (HS2.out b _ hbl).trans d01, (HS2.out b _ hbl).trans d11, (HS2.out b _ hbl).trans d21⟩) (fun hH => ?_)
    clear hK K hHeld
    have hHeld := hH
    clear hH
    refine ⟨by kernel_rfl, ?_⟩
    refine NoPanic.normal ?_
    clear hHeld HS0 HS1 HS2 HV0 hV1 hV2 q2 q3
    by_cases hz1 : 0 < s.size
    · have k1 : decide (0 < s.size) = true := decide_eq_true hz1
      have k1' : decide (s.size > 0) = true := decide_eq_true hz1
      by_cases hz2 : g.room < s.size + n
      · have k2 : decide (g.room < s.size + n) = true := decide_eq_true hz2
        have hpl : placeA g n = (⟨s.num + 1, 0, 0⟩, true) := by unfold placeA; rw [hlast]; simp only; rw [if_pos ⟨hz1, hz2⟩]
        go_wp2
        go_quiet (fail)
        go_wp2
        obtain ⟨hv4, hvb4⟩ := (hv2.same (w' := V2.drewN nq) (Nat.le_refl _) (fun _ _ _ => rfl)).set3 (q := 0) rfl _ _ _ rfl
        obtain ⟨⟨x0, x1, x2⟩, _⟩ := hv4.get3 (q := 0) rfl
        exact bodyPost_ret (v := .tuple #[ASeg.val ⟨s.num + 1, 0, 0⟩, .bool true]) (by simp [results, Tryz.f26, go_sem, x0, x1, x2, ASeg.val]) rfl ⟨by rw [← hPA, hpl], (drewN_below HVB.out nq).trans hvb4⟩
      · have k2 : decide (g.room < s.size + n) = false := decide_eq_false hz2
        have hpl : placeA g n = (s, false) := by unfold placeA; rw [hlast]; simp only; rw [if_neg (fun hc => hz2 hc.2)]
        go_wp2
        go_quiet (fail)
        go_wp2
        obtain ⟨hv4, hvb4⟩ := (hv2.same (w' := V2.drewN nq) (Nat.le_refl _) (fun _ _ _ => rfl)).set3 (q := 0) rfl _ _ _ rfl
        obtain ⟨⟨x0, x1, x2⟩, _⟩ := hv4.get3 (q := 0) rfl
        exact bodyPost_ret (v := .tuple #[ASeg.val s, .bool false]) (by simp [results, Tryz.f26, go_sem, x0, x1, x2, ASeg.val]) rfl ⟨by rw [← hPA, hpl], (drewN_below HVB.out nq).trans hvb4⟩
    · have k1 : decide (0 < s.size) = false := decide_eq_false hz1
      have hpl : placeA g n = (s, false) := by unfold placeA; rw [hlast]; simp only; rw [if_neg (fun hc => hz1 hc.1)]
      go_wp2
      go_quiet (fail)
      go_wp2
      obtain ⟨hv4, hvb4⟩ := (hv2.same (w' := V2.drewN nq) (Nat.le_refl _) (fun _ _ _ => rfl)).set3 (q := 0) rfl _ _ _ rfl
      obtain ⟨⟨x0, x1, x2⟩, _⟩ := hv4.get3 (q := 0) rfl
      exact bodyPost_ret (v := .tuple #[ASeg.val s, .bool false]) (by simp [results, Tryz.f26, go_sem, x0, x1, x2, ASeg.val]) rfl ⟨by rw [← hPA, hpl], (drewN_below HVB.out nq).trans hvb4⟩
end
end Go.Proofs.YtdffmmiegpndkaaGreatDoor
/-
  takeBack: what was written is taken back (printed by gen_back.py).
-/
namespace Go.Proofs.YtdffmmiegpndkaaGreatDoor
open Go.RowKit Go.Maps
set_option linter.unusedVariables false
section
variable {B : Nat} {w : World} {L : List Item} {i j l p : Nat} {A : AD} {g : AL}
def backA (A : AD) (g : AL) (s : ASeg) (fresh : Bool) : Int × AD := if fresh then A.remove (fileL g.name.data.toList s.num) else A.trunc (fileL g.name.data.toList s.num) s.size
set_option maxRecDepth 100000 in
set_option maxHeartbeats 4000000 in
theorem takeBack_any (h : Lies B w L) (hi : L[i]? = some (.disk p A)) (hj : L[j]? = some (.log l p g)) (hij : i ≠ j) (he : Env B w) (hnm : g.name.size ≤ 24) (s : ASeg) (h0 : 0 ≤ s.num) (h1 : s.num ≤ 10000000) (fresh : Bool) (R : Int × AD) (hR : backA A g s fresh = R) :
    Calls Tryz.prog 51 #[.pointer (some ⟨l, 0, none⟩), s.val, .bool fresh] w fun e w' => e = .returned (.tuple #[]) ∧ Lies B w' ((L.set i (.disk p R.2)).set j (.log l p { g with dead := R.1 != 0 })) ∧ Below B w w' := by
  obtain ⟨g1, hg1⟩ : ∃ x, w.heap.size = x := ⟨_, rfl⟩
  obtain ⟨w1, hw1⟩ : ∃ x, w.alloc (.cells #[.int .i64 s.num, .int .i64 s.size, .int .i64 s.fin] 66) = x := ⟨_, rfl⟩
  obtain ⟨hl1, hb1⟩ := h.newCells #[.int .i64 s.num, .int .i64 s.size, .int .i64 s.fin] 66
  rw [hw1, hg1] at hl1
  rw [hw1] at hb1
  obtain ⟨X, hX⟩ : ∃ X : List Item, [.block g1 (.cells #[.int .i64 s.num, .int .i64 s.size, .int .i64 s.fin] 66 (0, 0))] = X := ⟨_, rfl⟩
  rw [hX] at hl1
  have HX0 : Hid (X[0]? = some (.block g1 (.cells #[.int .i64 s.num, .int .i64 s.size, .int .i64 s.fin] 66 (0, 0)))) := by show _ = _; rw [← hX]; rfl
  obtain ⟨V0, hV0⟩ : ∃ x, w1.drew = x := ⟨_, rfl⟩
  have hv0 := hl1.same (w' := w1.drew) (Nat.le_refl _) (fun _ _ _ => rfl)
  rw [hV0] at hv0
  have hvb0 : Below B w V0 := by rw [← hV0]; exact hb1.drew
  have HSS : Hid (∀ (W : World) (it : Item), Lies B W ((L ++ X).set i it) → (W.cell? ⟨l, 0, none⟩ = some (.pointer (some ⟨p, 0, none⟩)) ∧ W.cell? ⟨g1, 0, none⟩ = some (.int .i64 s.num) ∧ W.cell? ⟨g1, 1, none⟩ = some (.int .i64 s.size) ∧ W.cell? ⟨g1, 2, none⟩ = some (.int .i64 s.fin))) := fun W it hl => by
    obtain ⟨v, r, hat, _⟩ := hl.logAt (i := j) (by rw [List.getElem?_set_ne hij]; exact get_head hj)
    have := hl.get3 (q := L.length + 0) (by rw [List.getElem?_set_ne (by have := (List.getElem?_eq_some_iff.1 hi).1; omega), get_tail]; exact HX0.out)
    exact ⟨hat.c0, this.1⟩
  have hS0 := HSS.out V0 (.disk p A) (by rw [hset_keep (get_head hi)]; exact hv0)
  have c0 := hS0.1
  obtain ⟨z0, z1, z2⟩ := hS0.2
  obtain ⟨v0, r0, hat0, hBl⟩ := hv0.logAt (get_head hj)
  have hFz : (fileB g.name s.num).size ≤ maxLen := by have := fileB_size (b := g.name) hnm h0 h1; unfold maxLen; omega
  have hfile := file_any (B := B) l s.num s.size s.fin g.name V0 hat0.c1 (lt_of_some hat0.cells) hnm h0 h1 (he.below hvb0) hv0.base
  have HEND : Hid (∀ (A' : AD) (W : World) (x : Int), R = (x, A') → Lies B W ((L ++ X).set i (.disk p A')) → Below B V0 W → W.cell? ⟨l, 5, none⟩ = some (.bool g.dead) ∧ W.frozen? ⟨l, 5, none⟩ = false ∧ Lies B (W.setCell ⟨l, 5, none⟩ (.bool (x != 0))) ((L.set i (.disk p R.2)).set j (.log l p { g with dead := R.1 != 0 })) ∧ Below B w (W.setCell ⟨l, 5, none⟩ (.bool (x != 0)))) := fun A' W x hRx hl hb => by
    have hil := (List.getElem?_eq_some_iff.1 hi).1
    have hjl := (List.getElem?_eq_some_iff.1 hj).1
    have hjj : ((L ++ X).set i (.disk p A'))[j]? = some (.log l p g) := by rw [List.getElem?_set_ne hij]; exact get_head hj
    obtain ⟨v, r, hat, _⟩ := hl.logAt hjj
    obtain ⟨h3, b3⟩ := hl.setLog hjj 5 (.bool (x != 0)) (g' := { g with dead := x != 0 }) (fun v => rfl) rfl
    rw [hset_app _ hil, hset_app _ (by rw [List.length_set]; exact hjl)] at h3
    rw [hRx]
    exact ⟨hat.c5, hat.fz 5, h3.drop, (hvb0.trans hb).trans b3⟩
  have HV0 := hide hV0
  have HL0 := hide hv0
  have HFILE := hide hfile
  have HFZ := hide hFz
  have HI : Hid ((L ++ X)[i]? = some (.disk p A)) := get_head hi
  have HR := hide hR
  have HBE : Hid (B ≤ V0.heap.size) := hv0.base
  have HG1 : Hid (g1 < V0.heap.size) := lt_of_some (hv0.atBlock (q := L.length + 0) (by rw [get_tail]; exact HX0.out))
  have HLV : Hid (l < V0.heap.size) := lt_of_some hat0.cells
  clear h hl1 hb1 hvb0 hV0 hv0 hfile hFz hat0 hR hX hi hj hij HX0 hS0
  unfold ASeg.val
  cases fresh with
  | true =>
    have hRR : R = A.remove (fileL g.name.data.toList s.num) := by rw [← HR.out]; rfl
    have HRR := hide hRR
    clear hRR HR
    go_enter Tryz.func51, Tryz.ntmps51
    go_wp2
    refine wp_region_noPanic ?_
    refine wp_region_held_drew (S := fun wx => wx.cell? ⟨l, 0, none⟩ = some (.pointer (some ⟨p, 0, none⟩)) ∧ wx.cell? ⟨g1, 0, none⟩ = some (.int .i64 s.num) ∧ wx.cell? ⟨g1, 1, none⟩ = some (.int .i64 s.size) ∧ wx.cell? ⟨g1, 2, none⟩ = some (.int .i64 s.fin)) (by kernel_rfl) (by rw [HV0.out]; exact ⟨c0, z0, z1, z2⟩) (fun hHeld => ?_)
    rw [HV0.out] at hHeld ⊢
    refine tK 0 (some 8) (.pointer (some ⟨l, 0, none⟩)) rfl hHeld ?_
    simp only [Act.put, pA, pB, pC]
    refine tK 1 (some 9) (.pointer (some ⟨l, 0, none⟩)) rfl hHeld ?_
    simp only [Act.put, pA, pB, pC]
    refine tK 2 (some 10) (.pointer (some ⟨l, 0, none⟩)) rfl hHeld ?_
    simp only [Act.put, pA, pB, pC]
    refine tH 3 (some 11) (.pointer (some ⟨p, 0, none⟩)) rfl (fun w hw => by obtain ⟨hw1, hw2, hw3, hw4⟩ := hw; first | rfl | (go_simp; done) | (go_simp; rfl)) hHeld ?_
    simp only [Act.put, pA, pB, pC]
    refine tK 4 (some 12) (.pointer (some ⟨l, 0, none⟩)) rfl hHeld ?_
    simp only [Act.put, pA, pB, pC]
    refine tH 5 (some 13) (.agg #[.int .i64 s.num, .int .i64 s.size, .int .i64 s.fin]) rfl (fun w hw => by obtain ⟨hw1, hw2, hw3, hw4⟩ := hw; first | rfl | (go_simp; done) | (go_simp; rfl)) hHeld ?_
    simp only [Act.put, pA, pB, pC]
    refine rdH 6 rfl (fun K hK => ?_)
    go_simp
    refine (HFILE.out).mono ?_
    rintro e W2 ⟨rfl, hb2⟩
    try go_wp2_with fail
    refine hK.out _ _ (⟨(World.cell?_of_block (hb2.block l HLV.out)).trans c0, (World.cell?_of_block (hb2.block g1 HG1.out)).trans z0, (World.cell?_of_block (hb2.block g1 HG1.out)).trans z1, (World.cell?_of_block (hb2.block g1 HG1.out)).trans z2⟩) (fun hH => ?_)
    clear hK K hHeld
    have hHeld := hH
    clear hH
    refine rdH 7 rfl (fun K hK => ?_)
    go_simp
    refine (s_remove (HL0.out.below hb2) HI.out (fileB g.name s.num) HFZ.out).mono ?_
    rintro e W3 ⟨rfl, hl3, hb3⟩
    try go_wp2_with fail
    refine hK.out _ _ (HSS.out W3 _ hl3) (fun hH => ?_)
    clear hK K hHeld
    have hHeld := hH
    clear hH
    refine tK 8 (some 6) (.int .i64 (A.remove (fileB g.name s.num).data.toList).1) rfl hHeld ?_
    simp only [Act.put, pA, pB, pC]
    refine ⟨by kernel_rfl, ?_⟩
    refine NoPanic.normal ?_
    obtain ⟨x5, x5f, hL, hBB⟩ := HEND.out _ W3 _ HRR.out hl3 ((hb2.mono HBE.out).trans hb3)
    have HL := hide hL
    have HBB := hide hBB
    clear hL hBB hHeld hl3 hb3 hb2
    go_wp2
    go_end0
    exact ⟨rfl, HL.out, HBB.out⟩
  | false =>
    have hRR : R = A.trunc (fileL g.name.data.toList s.num) s.size := by rw [← HR.out]; rfl
    have HRR := hide hRR
    clear hRR HR
    go_enter Tryz.func51, Tryz.ntmps51
    go_wp2
    refine wp_region_noPanic ?_
    refine wp_region_held_drew (S := fun wx => wx.cell? ⟨l, 0, none⟩ = some (.pointer (some ⟨p, 0, none⟩)) ∧ wx.cell? ⟨g1, 0, none⟩ = some (.int .i64 s.num) ∧ wx.cell? ⟨g1, 1, none⟩ = some (.int .i64 s.size) ∧ wx.cell? ⟨g1, 2, none⟩ = some (.int .i64 s.fin)) (by kernel_rfl) (by rw [HV0.out]; exact ⟨c0, z0, z1, z2⟩) (fun hHeld => ?_)
    rw [HV0.out] at hHeld ⊢
    refine tK 0 (some 16) (.pointer (some ⟨l, 0, none⟩)) rfl hHeld ?_
    simp only [Act.put, pA, pB, pC]
    refine tK 1 (some 17) (.pointer (some ⟨l, 0, none⟩)) rfl hHeld ?_
    simp only [Act.put, pA, pB, pC]
    refine tK 2 (some 18) (.pointer (some ⟨l, 0, none⟩)) rfl hHeld ?_
    simp only [Act.put, pA, pB, pC]
    refine tH 3 (some 19) (.pointer (some ⟨p, 0, none⟩)) rfl (fun w hw => by obtain ⟨hw1, hw2, hw3, hw4⟩ := hw; first | rfl | (go_simp; done) | (go_simp; rfl)) hHeld ?_
    simp only [Act.put, pA, pB, pC]
    refine tK 4 (some 20) (.pointer (some ⟨l, 0, none⟩)) rfl hHeld ?_
    simp only [Act.put, pA, pB, pC]
    refine tH 5 (some 21) (.agg #[.int .i64 s.num, .int .i64 s.size, .int .i64 s.fin]) rfl (fun w hw => by obtain ⟨hw1, hw2, hw3, hw4⟩ := hw; first | rfl | (go_simp; done) | (go_simp; rfl)) hHeld ?_
    simp only [Act.put, pA, pB, pC]
    refine tK 7 (some 23) (.pointer (some ⟨g1, 1, none⟩)) rfl hHeld ?_
    simp only [Act.put, pA, pB, pC]
    refine tH 8 (some 24) (.int .i64 s.size) rfl (fun w hw => by obtain ⟨hw1, hw2, hw3, hw4⟩ := hw; first | rfl | (go_simp; done) | (go_simp; rfl)) hHeld ?_
    simp only [Act.put, pA, pB, pC]
    refine rdH 6 rfl (fun K hK => ?_)
    go_simp
    refine (HFILE.out).mono ?_
    rintro e W2 ⟨rfl, hb2⟩
    try go_wp2_with fail
    refine hK.out _ _ (⟨(World.cell?_of_block (hb2.block l HLV.out)).trans c0, (World.cell?_of_block (hb2.block g1 HG1.out)).trans z0, (World.cell?_of_block (hb2.block g1 HG1.out)).trans z1, (World.cell?_of_block (hb2.block g1 HG1.out)).trans z2⟩) (fun hH => ?_)
    clear hK K hHeld
    have hHeld := hH
    clear hH
    refine rdH 9 rfl (fun K hK => ?_)
    go_simp
    refine (s_trunc (HL0.out.below hb2) HI.out (fileB g.name s.num) HFZ.out s.size).mono ?_
    rintro e W3 ⟨rfl, hl3, hb3⟩
    try go_wp2_with fail
    refine hK.out _ _ (HSS.out W3 _ hl3) (fun hH => ?_)
    clear hK K hHeld
    have hHeld := hH
    clear hH
    refine tK 10 (some 6) (.int .i64 (A.trunc (fileB g.name s.num).data.toList s.size).1) rfl hHeld ?_
    simp only [Act.put, pA, pB, pC]
    refine ⟨by kernel_rfl, ?_⟩
    refine NoPanic.normal ?_
    obtain ⟨x5, x5f, hL, hBB⟩ := HEND.out _ W3 _ HRR.out hl3 ((hb2.mono HBE.out).trans hb3)
    have HL := hide hL
    have HBB := hide hBB
    clear hL hBB hHeld hl3 hb3 hb2
    go_wp2
    go_end0
    exact ⟨rfl, HL.out, HBB.out⟩
end
end Go.Proofs.YtdffmmiegpndkaaGreatDoor
/-
  lay: a frame is written and synced, or taken back (printed by gen_lay.py).
-/
namespace Go.Proofs.YtdffmmiegpndkaaGreatDoor
open Go.RowKit Go.Maps
set_option linter.unusedVariables false
section
variable {B : Nat} {w : World} {L : List Item} {i j l p : Nat} {A : AD} {g : AL}
/-- The answer, the disk, whether the log is dead behind it. -/
def layA (A : AD) (g : AL) (s : ASeg) (fresh : Bool) (t : Key) : Int × AD × Bool :=
  let f := fileL g.name.data.toList s.num
  let r := A.write f s.size t
  if r.1 ≠ 0 then (r.1, r.2, r.1 == 9)
  else
    let q := r.2.sync f
    if q.1 = 0 then (0, q.2, g.dead)
    else if q.1 = 40 then (40, (backA q.2 g s fresh).2, (backA q.2 g s fresh).1 != 0)
    else (q.1, q.2, true)
set_option maxRecDepth 100000 in
set_option maxHeartbeats 4000000 in
theorem lay_any (h : Lies B w L) (hi : L[i]? = some (.disk p A)) (hj : L[j]? = some (.log l p g)) (hij : i ≠ j) (he : Env B w) (hnm : g.name.size ≤ 24) (s : ASeg) (h0 : 0 ≤ s.num) (h1 : s.num ≤ 10000000) (hz : 0 ≤ s.size ∧ s.size ≤ 100000000) (fresh : Bool) (t : ByteArray) (ht : t.size ≤ 140737488355328) (R : Int × AD × Bool) (hR : layA A g s fresh t.data.toList = R) :
    Calls Tryz.prog 27 #[.pointer (some ⟨l, 0, none⟩), s.val, .bool fresh, .string t] w fun e w' => e = .returned (.int .i64 R.1) ∧ Lies B w' ((L.set i (.disk p R.2.1)).set j (.log l p { g with dead := R.2.2 })) ∧ Below B w w' := by
  obtain ⟨g1, hg1⟩ : ∃ x, w.heap.size = x := ⟨_, rfl⟩
  obtain ⟨w1, hw1⟩ : ∃ x, w.alloc (.cells #[.int .i64 s.num, .int .i64 s.size, .int .i64 s.fin] 66) = x := ⟨_, rfl⟩
  obtain ⟨hl1, hb1⟩ := h.newCells #[.int .i64 s.num, .int .i64 s.size, .int .i64 s.fin] 66
  rw [hw1, hg1] at hl1
  rw [hw1] at hb1
  obtain ⟨X, hX⟩ : ∃ X : List Item, [.block g1 (.cells #[.int .i64 s.num, .int .i64 s.size, .int .i64 s.fin] 66 (0, 0))] = X := ⟨_, rfl⟩
  rw [hX] at hl1
  have HX0 : Hid (X[0]? = some (.block g1 (.cells #[.int .i64 s.num, .int .i64 s.size, .int .i64 s.fin] 66 (0, 0)))) := by show _ = _; rw [← hX]; rfl
  have HSS : Hid (∀ (W : World) (it : Item), Lies B W ((L ++ X).set i it) → (W.cell? ⟨l, 0, none⟩ = some (.pointer (some ⟨p, 0, none⟩)) ∧ W.cell? ⟨g1, 0, none⟩ = some (.int .i64 s.num) ∧ W.cell? ⟨g1, 1, none⟩ = some (.int .i64 s.size) ∧ W.cell? ⟨g1, 2, none⟩ = some (.int .i64 s.fin))) := fun W it hl => by
    obtain ⟨v, r, hat, _⟩ := hl.logAt (i := j) (by rw [List.getElem?_set_ne hij]; exact get_head hj)
    have := hl.get3 (q := L.length + 0) (by rw [List.getElem?_set_ne (by have := (List.getElem?_eq_some_iff.1 hi).1; omega), get_tail]; exact HX0.out)
    exact ⟨hat.c0, this.1⟩
  have HKEEP : Hid (∀ (W : World), Lies B W (L ++ X) → Lies B W ((L ++ X).set i (.disk p A))) := fun W hl => by rw [hset_keep (get_head hi)]; exact hl
  have hS1 := HSS.out w1 (.disk p A) (HKEEP.out _ hl1)
  have c0 := hS1.1
  obtain ⟨z0, z1, z2⟩ := hS1.2
  obtain ⟨v0, r0, hat0, hBl⟩ := hl1.logAt (get_head hj)
  have hFz : (fileB g.name s.num).size ≤ maxLen := by have := fileB_size (b := g.name) hnm h0 h1; unfold maxLen; omega
  have hfile := file_any (B := B) l s.num s.size s.fin g.name w1 hat0.c1 (lt_of_some hat0.cells) hnm h0 h1 (he.below hb1) hl1.base
  have HSET : Hid (∀ (A' : AD) (W : World) (d : Bool), Lies B W ((L ++ X).set i (.disk p A')) → W.cell? ⟨l, 5, none⟩ = some (.bool g.dead) ∧ W.frozen? ⟨l, 5, none⟩ = false ∧ Lies B (W.setCell ⟨l, 5, none⟩ (.bool d)) ((L.set i (.disk p A')).set j (.log l p { g with dead := d })) ∧ Below B W (W.setCell ⟨l, 5, none⟩ (.bool d))) := fun A' W d hl => by
    have hil := (List.getElem?_eq_some_iff.1 hi).1
    have hjl := (List.getElem?_eq_some_iff.1 hj).1
    have hjj : ((L ++ X).set i (.disk p A'))[j]? = some (.log l p g) := by rw [List.getElem?_set_ne hij]; exact get_head hj
    obtain ⟨v, r, hat, _⟩ := hl.logAt hjj
    obtain ⟨h3, b3⟩ := hl.setLog hjj 5 (.bool d) (g' := { g with dead := d }) (fun v => rfl) rfl
    rw [hset_app _ hil, hset_app _ (by rw [List.length_set]; exact hjl)] at h3
    exact ⟨hat.c5, hat.fz 5, h3.drop, b3⟩
  have HSAME : Hid (∀ (A' : AD) (W : World), Lies B W ((L ++ X).set i (.disk p A')) → Lies B W ((L.set i (.disk p A')).set j (.log l p { g with dead := g.dead }))) := fun A' W hl => by
    have hil := (List.getElem?_eq_some_iff.1 hi).1
    rw [hset_app _ hil] at hl
    rw [hset_keep (by rw [List.getElem?_set_ne hij]; exact hj)]
    exact hl.drop
  have HBACK : Hid (∀ (A' : AD) (W : World), Lies B W ((L ++ X).set i (.disk p A')) → Below B w W → Calls Tryz.prog 51 #[.pointer (some ⟨l, 0, none⟩), .agg #[.int .i64 s.num, .int .i64 s.size, .int .i64 s.fin], .bool fresh] W fun e w' => e = .returned (.tuple #[]) ∧ Lies B w' ((L.set i (.disk p (backA A' g s fresh).2)).set j (.log l p { g with dead := (backA A' g s fresh).1 != 0 })) ∧ Below B W w') := fun A' W hl hb => by
    have hil := (List.getElem?_eq_some_iff.1 hi).1
    have hjl := (List.getElem?_eq_some_iff.1 hj).1
    refine (takeBack_any hl (List.getElem?_set_self (by rw [List.length_append]; omega)) (by rw [List.getElem?_set_ne hij]; exact get_head hj) hij (he.below hb) hnm s h0 h1 fresh _ rfl).mono ?_
    rintro e w' ⟨e1, hl2, hb2⟩
    rw [List.set_set, hset_app _ hil, hset_app _ (by rw [List.length_set]; exact hjl)] at hl2
    exact ⟨e1, hl2.drop, hb2⟩
  have HII : Hid (∀ A' : AD, ((L ++ X).set i (.disk p A'))[i]? = some (.disk p A')) := fun A' => List.getElem?_set_self (by have := (List.getElem?_eq_some_iff.1 hi).1; rw [List.length_append]; omega)
  have HL1 := hide (HKEEP.out _ hl1)
  have HFILE := hide hfile
  have HFZ := hide hFz
  have HR := hide hR
  have HB1 := hide hb1
  have HBE : Hid (B ≤ w1.heap.size) := hl1.base
  have HT := hide ht
  have HZ := hide hz
  obtain ⟨F, hF⟩ : ∃ F, fileB g.name s.num = F := ⟨_, rfl⟩
  have HF : Hid (F.data.toList = fileL g.name.data.toList s.num) := by show _ = _; rw [← hF]; rfl
  rw [hF] at HFILE HFZ
  clear h hl1 hb1 hfile hFz hat0 hR hX hi hj hij HX0 hS1 ht hz HKEEP hF
  unfold ASeg.val
  go_enter Tryz.func27, Tryz.ntmps27
  go_wp2_with fail
  refine (HFILE.out).mono ?_
  rintro e W2 ⟨rfl, hb2⟩
  have hl2 := HL1.out.below hb2
  have hbb2 := HB1.out.trans (hb2.mono HBE.out)
  obtain ⟨V0, hV0⟩ : ∃ x, W2.drew = x := ⟨_, rfl⟩
  have hv0 := hl2.same (w' := W2.drew) (Nat.le_refl _) (fun _ _ _ => rfl)
  rw [hV0] at hv0
  have hvb0 : Below B w V0 := by rw [← hV0]; exact hbb2.drew
  have HS0 := hide (HSS.out _ _ hv0)
  have hw := s_write hv0 (HII.out A) F HFZ.out s.size (by have := HZ.out; omega) t HT.out
  obtain ⟨e1, A1, hW⟩ : ∃ e a, A.write F.data.toList s.size t.data.toList = (e, a) := ⟨_, _, rfl⟩
  rw [hW, List.set_set] at hw
  have HW := hide hw
  have HV0 := hide hV0
  have HWE := hide hW
  have HVB0 := hide hvb0
  clear hl2 hbb2 hb2 hv0 hvb0 hw hV0 hW c0 z0 z1 z2
  try go_wp2
  refine wp_region_noPanic ?_
  refine wp_region_held_drew (S := fun wx => wx.cell? ⟨l, 0, none⟩ = some (.pointer (some ⟨p, 0, none⟩)) ∧ wx.cell? ⟨g1, 0, none⟩ = some (.int .i64 s.num) ∧ wx.cell? ⟨g1, 1, none⟩ = some (.int .i64 s.size) ∧ wx.cell? ⟨g1, 2, none⟩ = some (.int .i64 s.fin)) (by kernel_rfl) (by rw [HV0.out]; exact HS0.out) (fun hHeld => ?_)
  rw [HV0.out] at hHeld ⊢
  refine tK 0 (some 15) (.pointer (some ⟨l, 0, none⟩)) rfl hHeld ?_
  simp only [Act.put, pA, pB, pC]
  refine tK 1 (some 16) (.pointer (some ⟨l, 0, none⟩)) rfl hHeld ?_
  simp only [Act.put, pA, pB, pC]
  refine tK 2 (some 17) (.pointer (some ⟨l, 0, none⟩)) rfl hHeld ?_
  simp only [Act.put, pA, pB, pC]
  refine tH 3 (some 18) (.pointer (some ⟨p, 0, none⟩)) rfl (fun w hw => by obtain ⟨hw1, hw2, hw3, hw4⟩ := hw; first | rfl | (go_simp; done) | (go_simp; rfl)) hHeld ?_
  simp only [Act.put, pA, pB, pC]
  refine tK 4 (some 19) (.string F) rfl hHeld ?_
  simp only [Act.put, pA, pB, pC]
  refine tK 5 (some 20) (.pointer (some ⟨g1, 1, none⟩)) rfl hHeld ?_
  simp only [Act.put, pA, pB, pC]
  refine tH 6 (some 21) (.int .i64 s.size) rfl (fun w hw => by obtain ⟨hw1, hw2, hw3, hw4⟩ := hw; first | rfl | (go_simp; done) | (go_simp; rfl)) hHeld ?_
  simp only [Act.put, pA, pB, pC]
  refine tK 7 (some 22) (.string t) rfl hHeld ?_
  simp only [Act.put, pA, pB, pC]
  refine rdH 8 rfl (fun K hK => ?_)
  go_simp
  refine (HW.out).mono ?_
  rintro e W3 ⟨rfl, hl3, hb3⟩
  try go_wp2_with fail
  refine hK.out _ _ (HSS.out W3 _ hl3) (fun hH => ?_)
  clear hK K hHeld
  have hHeld := hH
  clear hH
  refine tK 9 (some 10) (.int .i64 e1) rfl hHeld ?_
  simp only [Act.put, pA, pB, pC]
  refine ⟨by kernel_rfl, ?_⟩
  refine NoPanic.normal ?_
  by_cases hE : e1 = 0
  · subst hE
    have hbb3 := HVB0.out.trans hb3
    have hs := s_sync hl3 (HII.out A1) F HFZ.out
    obtain ⟨e2, A2, hQ⟩ : ∃ e a, A1.sync F.data.toList = (e, a) := ⟨_, _, rfl⟩
    rw [hQ, List.set_set] at hs
    have c0 := (HSS.out _ _ hl3).1
    have HS := hide hs
    have HQ := hide hQ
    have HBB3 := hide hbb3
    clear hl3 hb3 hbb3 hs hQ hHeld
    go_wp2_with fail
    refine (HS.out).mono ?_
    rintro e W4 ⟨rfl, hl4, hb4⟩
    have hbb4 := HBB3.out.trans hb4
    by_cases hE2 : e2 = 0
    · subst hE2
      have hRR : R = (0, A2, g.dead) := by
        rw [← HR.out]; unfold layA; simp only
        rw [← HF.out, HWE.out]; simp only
        rw [if_neg (by simp), HQ.out]; simp only
        exact if_pos trivial
      have HL4 := hide (HSAME.out _ _ hl4)
      have HBB4 := hide hbb4
      clear hl4 hb4 hbb4
      go_wp2
      go_ret
      rw [hRR]
      exact ⟨rfl, HL4.out, HBB4.out⟩
    · by_cases hE3 : e2 = 40
      · subst hE3
        have hRR : R = (40, (backA A2 g s fresh).2, (backA A2 g s fresh).1 != 0) := by
          rw [← HR.out]; unfold layA; simp only
          rw [← HF.out, HWE.out]; simp only
          rw [if_neg (by simp), HQ.out]; simp only
          rw [if_neg (by decide)]; exact if_pos trivial
        have hS4 := HSS.out _ _ hl4
        obtain ⟨_, y0, y1, y2⟩ := hS4
        have HK := hide (HBACK.out _ _ hl4 hbb4)
        have HBB4 := hide hbb4
        clear hl4 hb4 hbb4 hE2
        go_wp2_with fail
        refine (HK.out).mono ?_
        rintro e W5 ⟨rfl, hl5, hb5⟩
        have HL5 := hide hl5
        have HBB5 := hide (HBB4.out.trans hb5)
        clear hl5 hb5
        go_wp2
        go_ret
        rw [hRR]
        exact ⟨rfl, HL5.out, HBB5.out⟩
      · have hRR : R = (e2, A2, true) := by
          rw [← HR.out]; unfold layA; simp only
          rw [← HF.out, HWE.out]; simp only
          rw [if_neg (by simp), HQ.out]; simp only
          rw [if_neg hE2, if_neg hE3]
        have q1 : (e2 == 0) = false := by simpa using hE2
        have q2 : (e2 == 40) = false := by simpa using hE3
        obtain ⟨x5, x5f, hL5, hb5⟩ := HSET.out A2 W4 true hl4
        have HL5 := hide hL5
        have HBB5 := hide (hbb4.trans hb5)
        clear hl4 hb4 hbb4 hL5 hb5
        go_wp2
        go_ret
        rw [hRR]
        exact ⟨rfl, HL5.out, HBB5.out⟩
  · have hRR : R = (e1, A1, e1 == 9) := by
      rw [← HR.out]; unfold layA; simp only
      rw [← HF.out, HWE.out]; simp only
      rw [if_pos hE]
    have q1 : (e1 != 0) = true := by simpa using hE
    obtain ⟨x5, x5f, hL5, hb5⟩ := HSET.out A1 W3 (e1 == 9) hl3
    have HL5 := hide hL5
    have HBB5 := hide ((HVB0.out.trans hb3).trans hb5)
    clear hl3 hb3 hL5 hb5 hHeld
    go_wp2
    go_ret
    rw [hRR]
    exact ⟨rfl, HL5.out, HBB5.out⟩
end
end Go.Proofs.YtdffmmiegpndkaaGreatDoor
