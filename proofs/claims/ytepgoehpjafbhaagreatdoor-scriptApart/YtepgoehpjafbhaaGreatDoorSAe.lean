/-
  ScriptApart: the five appends at once.
-/
import Derived.Test.YtepgoehpjafbhaaGreatDoorSAd
namespace Go.Proofs.YtepgoehpjafbhaaGreatDoor
open Go.RowKit S
set_option linter.unusedVariables false
set_option linter.unusedSimpArgs false
/-- Two commands that may be read: their row in k, their fates in x and y. -/
structure Cw (t : List UInt8) (m : Nat) (w : World) (k x cx y cy : Nat) (g0 g1 : Nat → Value) : Prop where
  hk : k < w.heap.size
  hx : x < w.heap.size
  hy : y < w.heap.size
  ak : ∀ (i : Nat) (g : Nat → Value), [g0, g1][i]? = some g → At w k (i * 176) g 176
  ax : ∀ (i : Nat) (g : Nat → Value), (ftsA t 0 (m + 1))[i]? = some g → At w x (i * 4) g 4
  ay : ∀ (i : Nat) (g : Nat → Value), (ftsA t 0 (m + 1))[i]? = some g → At w y (i * 4) g 4
  e0 : ∀ j, j < 176 → g0 j = upd (cmdS 0) 173 (slV x (m + 1) cx) j
  e1 : ∀ j, j < 176 → g1 j = upd (cmdS 1) 173 (slV y (m + 1) cy) j
theorem Cw.same {t : List UInt8} {m k x cx y cy : Nat} {w w' : World} {g0 g1 : Nat → Value} (h : Cw t m w k x cx y cy g0 g1) (hs : w.heap.size ≤ w'.heap.size) (hk : w'.heap[k]? = w.heap[k]?) (hx : w'.heap[x]? = w.heap[x]?) (hy : w'.heap[y]? = w.heap[y]?) : Cw t m w' k x cx y cy g0 g1 :=
  ⟨Nat.lt_of_lt_of_le h.hk hs, Nat.lt_of_lt_of_le h.hx hs, Nat.lt_of_lt_of_le h.hy hs, fun i g hg => (h.ak i g hg).blk hk, fun i g hg => (h.ax i g hg).blk hx, fun i g hg => (h.ay i g hg).blk hy, h.e0, h.e1⟩
theorem Cw.below {t : List UInt8} {m k x cx y cy : Nat} {w w' : World} {g0 g1 : Nat → Value} (h : Cw t m w k x cx y cy g0 g1) (b : Below w.heap.size w w') : Cw t m w' k x cx y cy g0 g1 :=
  h.same b.size (b.block k h.hk) (b.block x h.hx) (b.block y h.hy)
theorem Cw.csz {t : List UInt8} {m k x cx y cy : Nat} {w : World} {g0 g1 : Nat → Value} (h : Cw t m w k x cx y cy g0 g1) (ht : t.length ≤ 60) (hm : m ≤ 4) : CsZ w k (fun i => if i = 0 then slV x (m + 1) cx else slV y (m + 1) cy) (csX t (m + 1)) :=
  Tw.csz ht hm h.e0 h.e1 h.hk h.hx h.hy h.ak h.ax h.ay
theorem Cw.fsz {t : List UInt8} {m k x cx y cy : Nat} {w : World} {g0 g1 : Nat → Value} (h : Cw t m w k x cx y cy g0 g1) (ht : t.length ≤ 60) (hm : m ≤ 4) : FsZ w (some ⟨x, 0, none⟩) (ftsA t 0 (m + 1)) :=
  ⟨ftsA_ok t ht (m + 1) (by omega), .inr ⟨x, rfl, h.hx, h.ax⟩⟩
theorem Tw.cw {t : List UInt8} {m B k ck x cx y cy : Nat} {w : World} {g0 g1 : Nat → Value} (h : Tw t (m + 1) B w k ck x cx y cy g0 g1) : Cw t m w k x cx y cy g0 g1 :=
  ⟨(h.oc.at_ (by simp)).2.1, (h.ox.at_ (fts_ne t m)).2.1, (h.oy.at_ (fts_ne t m)).2.1, (h.oc.at_ (by simp)).2.2, (h.ox.at_ (fts_ne t m)).2.2, (h.oy.at_ (fts_ne t m)).2.2, h.e0, h.e1⟩
/-- .. the commands that were printed. -/
theorem CsZ.cw {t : List UInt8} {m L kf cf : Nat} {w : World} (h : CsZ w L (fun _ => slV kf (m + 1) cf) (csX t (m + 1))) : Cw t m w L kf cf kf cf (cmA (slV kf (m + 1) cf) 0) (cmA (slV kf (m + 1) cf) 1) := by
  obtain ⟨hL, hc⟩ := h
  obtain ⟨a0, _, ad, cap, e, hf⟩ := hc 0 _ rfl
  obtain ⟨a1, _⟩ := hc 1 _ rfl
  have hf2 : ∃ k, (some ⟨kf, 0, none⟩ : Option Addr) = some ⟨k, 0, none⟩ ∧ k < w.heap.size ∧ ∀ (i : Nat) (g : Nat → Value), (ftsA t 0 (m + 1))[i]? = some g → At w k (i * 4) g 4 := by
    have e' : (some ⟨kf, 0, none⟩ : Option Addr) = ad := by injection e
    rw [e']
    exact hf.2.resolve_left (fts_ne t m)
  obtain ⟨k, hk, h1, h2⟩ := hf2
  cases hk
  refine ⟨hL, h1, h1, fun i g hg => ?_, h2, h2, fun j _ => rfl, fun j _ => rfl⟩
  match i, hg with
  | 0, hg => cases hg; exact a0
  | 1, hg => cases hg; exact a1
theorem At.last4 {w : World} {g : Nat} {l : List (Nat → Value)} {a : List UInt8} {n : Nat} (hn : l.length = n) (h : ∀ (i : Nat) (x : Nat → Value), (l ++ [ftW a])[i]? = some x → At w g (i * 4) x 4) : w.cell? ⟨g, n * 4, none⟩ = some (.string (bs a)) := by
  have q := h n (ftW a) (by rw [List.getElem?_append_right (by omega), hn, Nat.sub_self]; rfl) 0 (by omega)
  rw [Nat.add_zero] at q
  exact q
theorem At.last176 {w : World} {g : Nat} {a b : Nat → Value} {n : Int} (h : ∀ (i : Nat) (x : Nat → Value), ([a, b] ++ [cmK n])[i]? = some x → At w g (i * 176) x 176) : w.cell? ⟨g, 352, none⟩ = some (.int .i64 n) := by
  have q := h 2 (cmK n) rfl 0 (by omega)
  exact q
/-- The five appends, in their order. -/
theorem five {t : List UInt8} {m B C ka ca x0 cx0 x1 cx1 kb cb y0 cy0 y1 cy1 L kf cf : Nat} {w : World} {ga0 ga1 gb0 gb1 : Nat → Value} (ht : t.length ≤ 60) (hm : m ≤ 4)
    (oc : OwnC B w (slV ka 2 ca) [ga0, ga1]) (ox : OwnF B w (slV x0 (m + 1) cx0) (List.replicate (m + 1) (ftW [111, 110, 101]))) (oy : OwnF B w (slV x1 (m + 1) cx1) (ftsA t 0 (m + 1)))
    (ea0 : ga0 173 = slV x0 (m + 1) cx0) (ea1 : ga1 173 = slV x1 (m + 1) cx1) (kax : ka ≠ x0) (kay : ka ≠ x1) (xy : x0 ≠ x1)
    (U : Tw t (m + 1) C w kb cb y0 cy0 y1 cy1 gb0 gb1) (g1 : x0 < C) (g2 : x1 < C) (g3 : ka < C) (hBC : B ≤ C)
    (hL : Cw t m w L kf cf kf cf (cmA (slV kf (m + 1) cf) 0) (cmA (slV kf (m + 1) cf) 1)) (hLB : L < B) (hfB : kf < B) :
    ∃ gx dx v1 u1 gy dy v2 u2 gz dz v3 u3 gw dw v4 u4 gv dv v5 u5,
      (Instr.buildSlice 31 1 #[(0, .agg (tabv (ftW [116, 119, 111]) 4))]).run Tryz.prog w = .ok (.slice (some ⟨w.heap.size, 0, none⟩) 1 1) v1 ∧
      (Builtin.append_ #[31, 31] 31 #[.slice (some ⟨x0, 0, none⟩) (m + 1) cx0, .slice (some ⟨w.heap.size, 0, none⟩) 1 1]).run Tryz.prog v1 = .ok (.slice (some ⟨gx, 0, none⟩) (m + 1 + 1) dx) u1 ∧
      (Instr.buildSlice 31 1 #[(0, .agg (tabv (ftW [116, 104, 114, 101, 101]) 4))]).run Tryz.prog u1 = .ok (.slice (some ⟨u1.heap.size, 0, none⟩) 1 1) v2 ∧
      (Builtin.append_ #[31, 31] 31 #[.slice (some ⟨x1, 0, none⟩) (m + 1) cx1, .slice (some ⟨u1.heap.size, 0, none⟩) 1 1]).run Tryz.prog v2 = .ok (.slice (some ⟨gy, 0, none⟩) (m + 1 + 1) dy) u2 ∧
      (Instr.buildSlice 31 1 #[(0, .agg (tabv (ftW [102, 111, 117, 114]) 4))]).run Tryz.prog u2 = .ok (.slice (some ⟨u2.heap.size, 0, none⟩) 1 1) v3 ∧
      (Builtin.append_ #[31, 31] 31 #[.slice (some ⟨y0, 0, none⟩) (m + 1) cy0, .slice (some ⟨u2.heap.size, 0, none⟩) 1 1]).run Tryz.prog v3 = .ok (.slice (some ⟨gz, 0, none⟩) (m + 1 + 1) dz) u3 ∧
      (Instr.buildSlice 25 1 #[(0, .agg (tabv (cmK 99) 176))]).run Tryz.prog u3 = .ok (.slice (some ⟨u3.heap.size, 0, none⟩) 1 1) v4 ∧
      (Builtin.append_ #[25, 25] 25 #[.slice (some ⟨ka, 0, none⟩) 2 ca, .slice (some ⟨u3.heap.size, 0, none⟩) 1 1]).run Tryz.prog v4 = .ok (.slice (some ⟨gw, 0, none⟩) 3 dw) u4 ∧
      (Instr.buildSlice 25 1 #[(0, .agg (tabv (cmK 98) 176))]).run Tryz.prog u4 = .ok (.slice (some ⟨u4.heap.size, 0, none⟩) 1 1) v5 ∧
      (Builtin.append_ #[25, 25] 25 #[.slice (some ⟨kb, 0, none⟩) 2 cb, .slice (some ⟨u4.heap.size, 0, none⟩) 1 1]).run Tryz.prog v5 = .ok (.slice (some ⟨gv, 0, none⟩) 3 dv) u5 ∧
      w.cell? ⟨ka, 173, none⟩ = some (slV x0 (m + 1) cx0) ∧ u1.cell? ⟨ka, 349, none⟩ = some (slV x1 (m + 1) cx1) ∧ u2.cell? ⟨kb, 173, none⟩ = some (slV y0 (m + 1) cy0) ∧
      Below B w u5 ∧ Cw t m u5 L kf cf kf cf (cmA (slV kf (m + 1) cf) 0) (cmA (slV kf (m + 1) cf) 1) ∧ Cw t m u5 kb y0 cy0 y1 cy1 gb0 gb1 ∧
      (gx < u5.heap.size ∧ gy < u5.heap.size ∧ gz < u5.heap.size ∧ gw < u5.heap.size ∧ gv < u5.heap.size) ∧
      u5.cell? ⟨gx, 0, none⟩ = some (.string (bs [111, 110, 101])) ∧ u5.cell? ⟨gx, (m + 1) * 4, none⟩ = some (.string (bs [116, 119, 111])) ∧ u5.cell? ⟨gy, (m + 1) * 4, none⟩ = some (.string (bs [116, 104, 114, 101, 101])) ∧ u5.cell? ⟨gz, (m + 1) * 4, none⟩ = some (.string (bs [102, 111, 117, 114])) ∧
      u5.cell? ⟨gw, 352, none⟩ = some (.int .i64 99) ∧ u5.cell? ⟨gv, 352, none⟩ = some (.int .i64 98) := by
  have hr : (List.replicate (m + 1) (ftW [111, 110, 101])).length = m + 1 := List.length_replicate
  have hl := ftsA_len t (m + 1) 0
  have hne : List.replicate (m + 1) (ftW [111, 110, 101]) ≠ [] := by simp [List.replicate_succ]
  have hBw : B ≤ w.heap.size := by have := (ox.lt x0 rfl); omega
  have hx0 := ox.lt x0 rfl
  have hx1 := oy.lt x1 rfl
  have hka := oc.lt ka rfl
  have hkb := U.oc.lt kb rfl
  have hy0 := U.ox.lt y0 rfl
  have hy1 := U.oy.lt y1 rfl
  have n1 := U.kx
  have n2 := U.ky
  have n3 := U.xy
  have cA0 : w.cell? ⟨ka, 173, none⟩ = some (slV x0 (m + 1) cx0) := by
    have q := (oc.at_ (by simp)).2.2 0 ga0 rfl 173 (by omega)
    rw [ea0] at q
    exact q
  have cA1 : w.cell? ⟨ka, 349, none⟩ = some (slV x1 (m + 1) cx1) := by
    have q := (oc.at_ (by simp)).2.2 1 ga1 rfl 173 (by omega)
    rw [ea1] at q
    exact q
  have cB0 : w.cell? ⟨kb, 173, none⟩ = some (slV y0 (m + 1) cy0) := by
    have q := (U.oc.at_ (by simp)).2.2 0 gb0 rfl 173 (by omega)
    rw [U.e0 173 (by omega)] at q
    exact q
  have cell_blk : ∀ {a b : World} {k o : Nat}, b.heap[k]? = a.heap[k]? → b.cell? ⟨k, o, none⟩ = a.cell? ⟨k, o, none⟩ := fun {a b k o} e => by unfold World.cell?; rw [e]
  -- x
  have k1 := appF_keep w B x0 cx0 (List.replicate (m + 1) (ftW [111, 110, 101])) (ftW [116, 119, 111]) (by rw [hr]; exact ox) hne (one_ftW _) (by rw [hr]; omega) hBw
  rw [hr] at k1
  obtain ⟨gx, dx, v1, u1, r1, s1, o1, b1, p1, l1, q1, z1⟩ := k1
  have h1 := b1.size
  have oy1 : OwnF B u1 (slV x1 (m + 1) cx1) (ftsA t 0 (m + 1)) := oy.same fun q e => by cases e; exact o1 x1 hx1.2 xy
  -- y
  have k2 := appF_keep u1 B x1 cx1 (ftsA t 0 (m + 1)) (ftW [116, 104, 114, 101, 101]) (by rw [hl]; exact oy1) (fts_ne t m) (one_ftW _) (by rw [hl]; omega) (by omega)
  rw [hl] at k2
  obtain ⟨gy, dy, v2, u2, r2, s2, o2, b2, p2, l2, q2, z2⟩ := k2
  have h2 := b2.size
  have f2 : ∀ q, q < w.heap.size → x0 ≠ q → x1 ≠ q → u2.heap[q]? = w.heap[q]? := fun q hq a b => (o2 q (by omega) b).trans (o1 q hq a)
  have oy0 : OwnF B u2 (slV y0 (m + 1) cy0) (ftsA t 0 (m + 1)) := (U.ox.mono hBC).same fun q e => by cases e; exact f2 y0 hy0.2 (by omega) (by omega)
  -- z
  have k3 := appF_keep u2 B y0 cy0 (ftsA t 0 (m + 1)) (ftW [102, 111, 117, 114]) (by rw [hl]; exact oy0) (fts_ne t m) (one_ftW _) (by rw [hl]; omega) (by omega)
  rw [hl] at k3
  obtain ⟨gz, dz, v3, u3, r3, s3, o3, b3, p3, l3, q3, z3⟩ := k3
  have h3 := b3.size
  have f3 : ∀ q, q < w.heap.size → x0 ≠ q → x1 ≠ q → y0 ≠ q → u3.heap[q]? = w.heap[q]? := fun q hq a b c => (o3 q (by omega) c).trans (f2 q hq a b)
  have oc3 : OwnC B u3 (slV ka 2 ca) [ga0, ga1] := oc.same fun q e => by cases e; exact f3 ka hka.2 (fun e => kax e.symm) (fun e => kay e.symm) (by omega)
  -- w
  obtain ⟨gw, dw, v4, u4, r4, s4, o4, b4, p4, l4, q4, z4⟩ := appC_keep u3 B ka ca [ga0, ga1] (cmK 99) oc3 (by simp) (one_cmK _) (by simp) (by omega)
  have h4 := b4.size
  have f4 : ∀ q, q < w.heap.size → x0 ≠ q → x1 ≠ q → y0 ≠ q → ka ≠ q → u4.heap[q]? = w.heap[q]? := fun q hq a b c d => (o4 q (by omega) d).trans (f3 q hq a b c)
  have ob4 : OwnC B u4 (slV kb 2 cb) [gb0, gb1] := (U.oc.mono hBC).same fun q e => by cases e; exact f4 kb hkb.2 (by omega) (by omega) (fun e => n1 e.symm) (by omega)
  -- v
  obtain ⟨gv, dv, v5, u5, r5, s5, o5, b5, p5, l5, q5, z5⟩ := appC_keep u4 B kb cb [gb0, gb1] (cmK 98) ob4 (by simp) (one_cmK _) (by simp) (by omega)
  have h5 := b5.size
  have f5 : ∀ q, q < w.heap.size → x0 ≠ q → x1 ≠ q → y0 ≠ q → ka ≠ q → kb ≠ q → u5.heap[q]? = w.heap[q]? := fun q hq a b c d e => (o5 q (by omega) e).trans (f4 q hq a b c d)
  have ex : ∀ o, u5.cell? ⟨gx, o, none⟩ = u1.cell? ⟨gx, o, none⟩ := fun o => cell_blk ((((o5 gx (by omega) (by omega)).trans (o4 gx (by omega) (by omega))).trans (o3 gx (by omega) (by omega))).trans (o2 gx l1 (by omega)))
  have ey : ∀ o, u5.cell? ⟨gy, o, none⟩ = u2.cell? ⟨gy, o, none⟩ := fun o => cell_blk (((o5 gy (by omega) (by omega)).trans (o4 gy (by omega) (by omega))).trans (o3 gy l2 (by omega)))
  have ez : ∀ o, u5.cell? ⟨gz, o, none⟩ = u3.cell? ⟨gz, o, none⟩ := fun o => cell_blk ((o5 gz (by omega) (by omega)).trans (o4 gz l3 (by omega)))
  have ew : ∀ o, u5.cell? ⟨gw, o, none⟩ = u4.cell? ⟨gw, o, none⟩ := fun o => cell_blk (o5 gw l4 (by omega))
  have hLw := hL.hk
  have hfw := hL.hx
  refine ⟨gx, dx, v1, u1, gy, dy, v2, u2, gz, dz, v3, u3, gw, dw, v4, u4, gv, dv, v5, u5, r1, s1, r2, s2, r3, s3, r4, s4, r5, s5, cA0, ?_, ?_, ?_, ?_, ?_, ⟨by omega, by omega, by omega, by omega, l5⟩, ?_, ?_, ?_, ?_, ?_, At.last176 z5⟩
  · rw [cell_blk (o1 ka hka.2 (fun e => kax e.symm))]; exact cA1
  · rw [cell_blk (f2 kb hkb.2 (by omega) (by omega))]; exact cB0
  · exact (((b1.trans b2).trans b3).trans b4).trans b5
  · exact hL.same (by omega) (f5 L hLw (by omega) (by omega) (by omega) (by omega) (by omega)) (f5 kf hfw (by omega) (by omega) (by omega) (by omega) (by omega)) (f5 kf hfw (by omega) (by omega) (by omega) (by omega) (by omega))
  · refine ⟨by omega, by omega, by omega, q5, fun i g hg => ?_, fun i g hg => ?_, U.e0, U.e1⟩
    · exact (q3 i g hg).blk ((o5 y0 (by omega) n1).trans (o4 y0 (by omega) (by omega)))
    · exact ((U.oy.at_ (fts_ne t m)).2.2 i g hg).blk (f5 y1 hy1.2 (by omega) (by omega) n3 (by omega) n2)
  · have q := z1 0 (ftW [111, 110, 101]) (by rw [List.getElem?_append_left (by omega), List.getElem?_replicate_of_lt (by omega)]) 0 (by omega)
    rw [ex]
    exact q
  · rw [ex]; exact At.last4 hr z1
  · rw [ey]; exact At.last4 hl z2
  · rw [ez]; exact At.last4 hl z3
  · rw [ew]; exact At.last176 z4
end Go.Proofs.YtepgoehpjafbhaaGreatDoor
