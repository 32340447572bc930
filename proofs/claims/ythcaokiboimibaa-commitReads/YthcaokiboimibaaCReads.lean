/-
  CommitReads: the walk (printed by gen_c17.py).
-/
import Derived.Test.YthcaokiboimibaaCBack
import Derived.Test.YthcaokiboimibaaCDoc4
namespace Go.Proofs.Ythcaokiboimibaa
open Go.RowKit S
set_option linter.unusedVariables false
set_option linter.unusedSimpArgs false
theorem RdC.same {b : ByteArray} {o n : Int} {h : Nat → UInt8} {x y : Int} {l : List Pen} {e : Int} {o' n' : Int} {h' : Nat → UInt8} {x' y' : Int} {l' : List Pen} {e' : Int} (p : RdC b o n h x y l e) (q : RdC b o' n' h' x' y' l' e') : o = o' ∧ n = n' ∧ eqH h h' = true ∧ x = x' ∧ y = y' ∧ eqL l l' ∧ e = e' ∧ l.length ≤ 966 ∧ l'.length ≤ 966 := by
  rcases p with ⟨he, p⟩ | ⟨he, e1, e2, e3, e4, e5, e6, hn⟩
  · rcases q with ⟨he', q⟩ | ⟨_, _, _, _, _, _, _, hn⟩
    · obtain ⟨a1, a2, a3, a4, a5, a6⟩ := p.one q
      exact ⟨a1, a2, a3, a4, a5, a6, he.trans he'.symm, p.snd.len, q.snd.len⟩
    · exact absurd p (hn _ _ _ _ _ _)
  · rcases q with ⟨_, q⟩ | ⟨he', f1, f2, f3, f4, f5, f6, _⟩
    · exact absurd q (hn _ _ _ _ _ _)
    · subst e1 e2 e3 e4 e5 e6 f1 f2 f3 f4 f5 f6
      exact ⟨rfl, rfl, eqH_refl _, rfl, rfl, eqL_nil, he.trans he'.symm, Nat.zero_le _, Nat.zero_le _⟩
set_option maxRecDepth 100000 in
set_option maxHeartbeats 4000000 in
theorem reads_walk (b : ByteArray) (hb : b.size ≤ 140737488351232) (w : World) : Calls Try.prog 6 #[.string b] w fun e w' => e = .returned (.bool true) ∧ Below w.heap.size w w' := by
  have HB := hide hb
  clear hb
  go_enter Try.func6, Try.ntmps6
  go_wp2_with fail
  refine (read_any b _).mono ?_
  rintro e wA1 ⟨o1, n1, h1, x1, y1, l1, v1, e1, rfl, hO, hbA, hC⟩
  obtain ⟨ad1, c1, hv, hS, _, _, _⟩ := hO.pens
  obtain ⟨m1, hm⟩ : ∃ n, l1.length = n := ⟨_, rfl⟩
  rw [hm] at hv
  subst hv
  have HM1 := hide hm
  have HC1 := hide hC
  obtain ⟨wE, wF, wG, w1, hWE, hWF, hWG, hWH, qF, qG, qH, qL, bH⟩ := newHL wA1 h1 x1 y1 (.slice ad1 m1 c1)
  have QF := hide qF
  have QG := hide qG
  have bt : Below w.heap.size w w1 := hbA.trans (bH.mono hbA.size)
  have GB1 := hide bt
  clear bt
  have HS1 := hide (hS.below bH)
  have QH1 := hide qH
  have QL1 := hide qL
  clear qF qG qH qL bH hS hO hbA hC hm
  go_upto_region 2 with (first | refine wpList_storeHH rfl _ _ rfl rfl wA1.heap.size h1 rfl rfl _ QF.out ?_ | (rw [hWG]; refine wpList_storeL rfl _ _ rfl rfl wE.heap.size x1 y1 (.slice ad1 m1 c1) rfl rfl rfl _ QG.out ?_) | refine wpList_storeL rfl _ _ rfl rfl wE.heap.size x1 y1 (.slice ad1 m1 c1) rfl rfl rfl _ QG.out ?_)
  try rw [hWG]
  try rw [hWH]
  generalize hgh : wA1.heap.size = gh1 at QH1 ⊢
  generalize hgl : wE.heap.size = gl1 at QL1 ⊢
  clear hWE hWF hWG hWH QF QG hgh hgl
  go_wp2_with fail
  refine (rread_any b HB.out _).mono ?_
  rintro e wA2 ⟨o2, n2, h2, x2, y2, l2, v2, e2, rfl, hO, hbA, hC⟩
  obtain ⟨ad2, c2, hv, hS, _, _, _⟩ := hO.pens
  obtain ⟨m2, hm⟩ : ∃ n, l2.length = n := ⟨_, rfl⟩
  rw [hm] at hv
  subst hv
  have HM2 := hide hm
  have HC2 := hide hC
  obtain ⟨wE, wF, wG, w2, hWE, hWF, hWG, hWH, qF, qG, qH, qL, bH⟩ := newHL wA2 h2 x2 y2 (.slice ad2 m2 c2)
  have QF := hide qF
  have QG := hide qG
  have bt : Below w1.heap.size w1 w2 := hbA.trans (bH.mono hbA.size)
  have QH12 := hide (QH1.out.below bt QH1.out.lt)
  have QL12 := hide (QL1.out.below bt QL1.out.lt)
  have HS12 := hide (HS1.out.below bt)
  have GB2 : Hid (Below w.heap.size w w2) := GB1.out.trans (bt.mono GB1.out.size)
  clear bt QH1 QL1 HS1 GB1
  have HS2 := hide (hS.below bH)
  have QH2 := hide qH
  have QL2 := hide qL
  clear qF qG qH qL bH hS hO hbA hC hm
  go_upto_region 3 with (first | refine wpList_storeHH rfl _ _ rfl rfl wA2.heap.size h2 rfl rfl _ QF.out ?_ | (rw [hWG]; refine wpList_storeL rfl _ _ rfl rfl wE.heap.size x2 y2 (.slice ad2 m2 c2) rfl rfl rfl _ QG.out ?_) | refine wpList_storeL rfl _ _ rfl rfl wE.heap.size x2 y2 (.slice ad2 m2 c2) rfl rfl rfl _ QG.out ?_)
  try rw [hWG]
  try rw [hWH]
  generalize hgh : wA2.heap.size = gh2 at QH2 ⊢
  generalize hgl : wE.heap.size = gl2 at QL2 ⊢
  clear hWE hWF hWG hWH QF QG hgh hgl
  obtain ⟨a1, a2, a3, a4, a5, a6, a7, z1, z2⟩ := HC1.out.same HC2.out
  subst a1 a2 a4 a5 a7
  have E3 := hide a3
  have E6 := hide a6
  rw [HM1.out] at z1
  rw [HM2.out] at z2
  have HZ : Hid (m1 ≤ 966 ∧ m2 ≤ 966) := ⟨z1, z2⟩
  clear a3 a6 z1 z2 HC1 HC2
  go_wp2_with (first | refine wpW_load_at 23 _ rfl (gh1) (0) (by rfl) (by rfl) _ 32 _ (QH12.out.at_ 0 (by omega) (fun i hi => by rw [Nat.zero_add])) Try.underlying23 rfl info26 ?_ | refine wpW_load_at 23 _ rfl (gh2) (0) (by rfl) (by rfl) _ 32 _ (QH2.out.at_ 0 (by omega) (fun i hi => by rw [Nat.zero_add])) Try.underlying23 rfl info26 ?_ | refine wpW_run (by rfl) (.bool true) (run_eqHT _ (.tmp 38) (.tmp 39) h1 h2 rfl (by rfl) (by rfl) E3.out) ?_ | refine wpW_load_at 26 _ rfl (gl1) (0) (by rfl) (by rfl) _ 3 _ (QL12.out.at_ 0 (by omega) (fun i hi => by rw [Nat.zero_add])) Try.underlying26 rfl infoL ?_ | refine wpW_load_at 26 _ rfl (gl2) (0) (by rfl) (by rfl) _ 3 _ (QL2.out.at_ 0 (by omega) (fun i hi => by rw [Nat.zero_add])) Try.underlying26 rfl infoL ?_ | fail)
  refine (same_any x1 y1 x1 y1 ad1 ad2 m1 c1 m2 c2 l1 l2 HM1.out HM2.out (by have := HZ.out; omega) (by have := HZ.out; omega) _ HS12.out HS2.out).mono ?_
  rintro e w3 ⟨R, rfl, hR, hb3⟩
  obtain rfl : R = true := hR.2 ⟨rfl, rfl, E6.out⟩
  have GB3 : Hid (Below w.heap.size w w3) := GB2.out.trans (hb3.mono GB2.out.size)
  clear hR hb3 GB2 QH12 QL12 QH2 QL2 HS12 HS2
  go_wp2_with fail
  refine (first_any _).mono ?_
  rintro e w4 ⟨rfl, hb4⟩
  have GB4 : Hid (Below w.heap.size w w4) := GB3.out.trans (hb4.mono GB3.out.size)
  clear hb4 GB3
  go_wp2
  go_ret
  exact ⟨rfl, GB4.out⟩
end Go.Proofs.Ythcaokiboimibaa
