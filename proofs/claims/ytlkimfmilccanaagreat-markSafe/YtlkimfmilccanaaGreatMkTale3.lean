/-
  A tale's raises.
-/
import Derived.Test.YtlkimfmilccanaaGreatMkTale2
import Derived.Test.YtlkimfmilccanaaGreatKOpen
namespace Go.Proofs.YtlkimfmilccanaaGreat
open Go.RowKit Go.Maps Go.WideMaps
set_option linter.unusedVariables false
set_option linter.unusedSimpArgs false
theorem info2' : (Tryz.prog.info? 2).map (fun i => (i.zero, i.size, i.bytes)) = some (some (.int .i64 0), 1, 8) := by kernel_rfl
theorem app_int {B : Nat} {W W1 : World} {L : List Item} {q : Nat} {v : Value} {xs : List Int} (h : Lies B W L) (hq : L[q]? = some (.row 2 v (xs.map intV))) (x : Int) (hlen : (xs.length + 1) * 8 ≤ 140737488355328) (ty : TypeId) (hW1 : W.alloc (.cells #[.int .i64 x] 2) = W1) {g1 : Nat} (hg1 : W.heap.size = g1) :
    ∃ ad cap W2, (Builtin.append_ #[53, 53] ty #[v, .slice (some ⟨g1, 0, none⟩) 1 1]).run Tryz.prog W1 = .ok (.slice ad (xs.length + 1) cap) W2 ∧ Lies B W2 (L.set q (.row 2 (.slice ad (xs.length + 1) cap) ((xs ++ [x]).map intV))) ∧ Below B W W2 := by
  have hb1 : Below W.heap.size W W1 := by rw [← hW1]; exact (Below.refl _ _).alloc (Nat.le_refl _) _
  have h1 := h.below hb1
  have hk1 : W1.heap[g1]? = some (.cells #[.int .i64 x] 2 (0, 0)) := by rw [← hW1, ← hg1]; exact heap_alloc_new W _
  have hsrc : Src Tryz.prog 1 53 (.slice (some ⟨g1, 0, none⟩) 1 1) [intV x].length [intV x] W1 := Src.ofSlice W1 Tryz.underlying53 ⟨g1, 0, none⟩ 1 1 [intV x] (by simp) (World.news_of_block hk1) (by intro u hu; simp at hu; subst hu; rfl)
  obtain ⟨v', W2, hr, hown, hmv⟩ := run_append_rows (t := 53) (e := 2) (z := .int .i64 0) (by_ := 8) Tryz.underlying53 info2' rfl (by decide) W1 ty 53 v (xs.map intV) [intV x] (h1.rowOf hq) _ hsrc (by simp; omega)
  obtain ⟨ad, cap, hv, _⟩ := row_at hown
  subst hv
  obtain ⟨h2, hb2⟩ := h1.moved hq hown hmv
  have e : (xs.map intV ++ [intV x]).length = xs.length + 1 := by simp
  rw [e] at hr h2
  refine ⟨ad, cap, W2, hr, ?_, (hb1.mono h.base).trans hb2⟩
  rw [List.map_append]
  exact h2
section
variable {B : Nat} {w : World} {L : List Item} {a r c t p : Nat} {s : TS} {A : AD} {k : ByteArray}
def TAt.next2 (L : List Item) (p : Nat) (A' : AD) (a r c t : Nat) (s' : TS) (k : ByteArray) : List Item := (((L.set 0 (.disk p A')).set a (s'.blk t)).set r s'.row).set c (mkO p k s'.m)
theorem next2_same (ht : TAt L p A a r c t s k) : TAt.next2 L p A a r c t s k = L := by
  unfold TAt.next2
  rw [mset_same ht.qd, mset_same ht.qa, mset_same ht.qr, mset_same ht.qc]
set_option maxRecDepth 5000 in
set_option maxHeartbeats 4000000 in
theorem traises_none (h : Lies B w L) (ht : TAt L p A a r c t s k) (n : Int) (hm : s.m = none) : Calls Tryz.prog 22 #[.pointer (some ⟨t, 0, none⟩), .int .i64 n] w fun e w' => e = .returned (.bool true) ∧ w' = w := by
  obtain ⟨d0, _, _, _⟩ := tale_cells h ht.qa
  rw [hm] at d0
  have d0' : w.cell? ⟨t, 0, none⟩ = some (.pointer none) := d0
  clear h ht hm d0
  go_enter Tryz.func22, Tryz.ntmps22
  go_wp2
  go_ret
  exact ⟨rfl, rfl⟩
set_option maxRecDepth 5000 in
set_option maxHeartbeats 4000000 in
theorem traises_bad {g : Nat} {v : Int} {x : Nat} (h : Lies B w L) (ht : TAt L p A a r c t s k) (hk : k.size ≤ 1000) (n : Int) (hm : s.m = some (g, v, x)) (hx : x ≤ 1) (hn : numB n = false) : Calls Tryz.prog 22 #[.pointer (some ⟨t, 0, none⟩), .int .i64 n] w fun e w' => e = .returned (.bool true) ∧ Lies B w' L ∧ Below B w w' := by
  have hc := ht.qc
  rw [hm] at hc
  have hR : A.raiseM k.data.toList v x n = (1, (v, x), A) := by unfold AD.raiseM; rw [if_pos hn]
  have hr := mraise_any h ht.qd hc ht.nc0.symm hk hx n _ hR
  have hL : (L.set 0 (.disk p A)).set c (.mkI 91 g p k v x) = L := by rw [mset_same ht.qd]; exact mset_same hc
  have hr' : Calls Tryz.prog 11 #[.pointer (some ⟨g, 0, none⟩), .int .i64 n] w fun e w' => e = .returned (.int .i64 1) ∧ Lies B w' L ∧ Below B w w' := hr.mono (fun e w' ⟨h1, h2, h3⟩ => ⟨h1, by rw [← hL]; exact h2, h3⟩)
  have HV := hide (mvalue_any h hc)
  obtain ⟨d0, _, _, _⟩ := tale_cells h ht.qa
  rw [hm] at d0
  have d0' : w.cell? ⟨t, 0, none⟩ = some (.pointer (some ⟨g, 0, none⟩)) := d0
  have HQA := hide ht.qa
  have HC := hide hc
  have HMM := hide hm
  clear h ht hm d0 hr hR hL hc hk
  rw [numB_lt] at hn
  have HFIN : ∀ (w2 : World), Lies B w2 L → w2.cell? ⟨t, 0, none⟩ = some (.pointer (some ⟨g, 0, none⟩)) := fun w2 h2 => by
    obtain ⟨d0, _, _, _⟩ := tale_cells h2 HQA.out
    rw [HMM.out] at d0
    exact d0
  have HF := hide HFIN
  clear HFIN
  by_cases g1 : -1 ≤ n
  · have e1 : decide (n ≥ -1) = true := decide_eq_true g1
    have e1' : decide (-1 ≤ n) = true := decide_eq_true g1
    rw [e1', Bool.true_and] at hn
    clear g1 e1'
    go_enter Tryz.func22, Tryz.ntmps22
    go_wp2_with fail
    refine HV.out.mono ?_
    rintro e w1 ⟨rfl, hw⟩
    obtain rfl := hw.symm
    clear hw
    go_wp2_with fail
    refine hr'.mono ?_
    rintro e w2 ⟨rfl, h2, hb2⟩
    have q0 := HF.out w2 h2
    have HV2 := hide (mvalue_any h2 HC.out)
    have H2 := hide h2
    have HB2 := hide hb2
    clear h2 hb2 hr'
    go_wp2_with fail
    refine HV2.out.mono ?_
    rintro e w3 ⟨rfl, hw⟩
    obtain rfl := hw.symm
    clear hw
    have dv : (v == v) = true := by simp
    go_wp2
    go_ret
    exact ⟨rfl, H2.out, HB2.out⟩
  · have e1 : decide (n ≥ -1) = false := decide_eq_false g1
    clear g1 hn
    go_enter Tryz.func22, Tryz.ntmps22
    go_wp2_with fail
    refine HV.out.mono ?_
    rintro e w1 ⟨rfl, hw⟩
    obtain rfl := hw.symm
    clear hw
    go_wp2_with fail
    refine hr'.mono ?_
    rintro e w2 ⟨rfl, h2, hb2⟩
    have q0 := HF.out w2 h2
    have HV2 := hide (mvalue_any h2 HC.out)
    have H2 := hide h2
    have HB2 := hide hb2
    clear h2 hb2 hr'
    go_wp2_with fail
    refine HV2.out.mono ?_
    rintro e w3 ⟨rfl, hw⟩
    obtain rfl := hw.symm
    clear hw
    have dv : (v == v) = true := by simp
    go_wp2
    go_ret
    exact ⟨rfl, H2.out, HB2.out⟩
set_option maxRecDepth 5000 in
set_option maxHeartbeats 4000000 in
theorem traises_good {g : Nat} {v : Int} {x : Nat} (h : Lies B w L) (ht : TAt L p A a r c t s k) (hk : k.size ≤ 1000) (n : Int) (hm : s.m = some (g, v, x)) (hx : x ≤ 1) (hn : numB n = true) (hlen : (s.tr.length + 1) * 8 ≤ 140737488355328)
    (E : Int) (v' : Int) (x' : Nat) (A' : AD) (hR : A.raiseM k.data.toList v x n = (E, (v', x'), A')) (hle : n ≤ v → E = 0 ∧ v' = v) (hno : v < n → E ≠ 0 → v' = v ∧ E ≠ 1 ∧ E ≠ 190) (hyes : v < n → E = 0 → v' = n) (acN : Int) (hacN : acN = if v < n ∧ E = 0 then n else s.ac) :
    Calls Tryz.prog 22 #[.pointer (some ⟨t, 0, none⟩), .int .i64 n] w fun e w' => e = .returned (.bool true) ∧ Below B w w' ∧ ∃ nv, Lies B w' (TAt.next2 L p A' a r c t { ac := acN, tr := s.tr ++ [n], v := nv, m := some (g, v', x') } k) := by
  have HACN := hide hacN
  clear hacN
  have hnb := numB_iff.1 hn
  have e1 : decide (n ≥ -1) = true := decide_eq_true hnb.1
  have e2 : decide (n < 281474976710656) = true := decide_eq_true (by omega)
  have hc := ht.qc
  rw [hm] at hc
  have hcI : L[c]? = some (.mkI 91 g p k v x) := hc
  have HV := hide (mvalue_any h hcI)
  obtain ⟨d0, _, d2, _⟩ := tale_cells h ht.qa
  rw [hm] at d0
  have d0' : w.cell? ⟨t, 0, none⟩ = some (.pointer (some ⟨g, 0, none⟩)) := d0
  obtain ⟨ad0, cap0, hv0, _⟩ := tale_row h ht.qr
  rw [hv0] at d2
  -- the append
  obtain ⟨g1, hg1⟩ : ∃ x, w.heap.size = x := ⟨_, rfl⟩
  obtain ⟨w1, hw1⟩ : ∃ x, w.alloc (.cells #[.int .i64 n] 2) = x := ⟨_, rfl⟩
  have hap := fun ty => app_int h ht.qr n hlen ty hw1 hg1
  rw [hv0] at hap
  obtain ⟨ad, cap, w2, hap2, h2, hb2⟩ := hap 53
  obtain ⟨nv, hnv⟩ : ∃ nv : Value, .slice ad (s.tr.length + 1) cap = nv := ⟨_, rfl⟩
  obtain ⟨s1, hs1⟩ : ∃ s1 : TS, s1 = { ac := s.ac, tr := s.tr ++ [n], v := .slice ad (s.tr.length + 1) cap, m := some (g, v, x) } := ⟨_, rfl⟩
  have h2' : Lies B w2 (L.set r s1.row) := by rw [hs1]; exact h2
  have qa2 : (L.set r s1.row)[a]? = some (s.blk t) := by rw [List.getElem?_set_ne ht.nar.symm]; exact ht.qa
  obtain ⟨j0, _, _, fz2⟩ := tale_cells h2' qa2
  rw [hm] at j0
  have j0' : w2.cell? ⟨t, 0, none⟩ = some (.pointer (some ⟨g, 0, none⟩)) := j0
  have f2 := fz2 2
  have j2 : w2.cell? ⟨t, 2, none⟩ = some (.slice ad0 s.tr.length cap0) := by obtain ⟨_, _, q, _⟩ := tale_cells h2' qa2; rw [q, hv0]
  obtain ⟨w3, hw3⟩ : ∃ x, w2.setCell ⟨t, 2, none⟩ (.slice ad (s.tr.length + 1) cap) = x := ⟨_, rfl⟩
  obtain ⟨h3, hb3⟩ := Lies.setBlk (o := 2) (.slice ad (s.tr.length + 1) cap) s1.cells (by rw [hs1]; unfold TS.cells; rw [hm]; rfl) h2' qa2
  rw [hw3] at h3 hb3
  obtain ⟨L3, hL3⟩ : ∃ X, (L.set r s1.row).set a (.block t (.cells s1.cells 55 (0, 0))) = X := ⟨_, rfl⟩
  rw [hL3] at h3
  have ra : L3[a]? = some (s1.blk t) := by rw [← hL3]; exact kget qa2 _
  have rd : L3[0]? = some (.disk p A) := by rw [← hL3, List.getElem?_set_ne ht.na0, List.getElem?_set_ne ht.nr0]; exact ht.qd
  have rc : L3[c]? = some (.mkI 91 g p k v x) := by rw [← hL3, List.getElem?_set_ne ht.nac, List.getElem?_set_ne ht.nrc]; exact hcI
  obtain ⟨m0, _, _, _⟩ := tale_cells h3 ra
  rw [hs1] at m0
  have m0' : w3.cell? ⟨t, 0, none⟩ = some (.pointer (some ⟨g, 0, none⟩)) := m0
  have HR := hide (mraise_any h3 rd rc ht.nc0.symm hk hx n _ hR)
  have HB3 := hide (hb2.trans hb3)
  have HNEXT : Hid (∀ (W : World) (acn : Int), Lies B W (((L3.set 0 (.disk p A')).set c (.mkI 91 g p k v' x')).set a (({ ac := acn, tr := s.tr ++ [n], v := .slice ad (s.tr.length + 1) cap, m := some (g, v', x') } : TS).blk t)) → Lies B W (TAt.next2 L p A' a r c t { ac := acn, tr := s.tr ++ [n], v := .slice ad (s.tr.length + 1) cap, m := some (g, v', x') } k)) := fun W acn hl => by
    have e : TAt.next2 L p A' a r c t { ac := acn, tr := s.tr ++ [n], v := .slice ad (s.tr.length + 1) cap, m := some (g, v', x') } k = ((L3.set 0 (.disk p A')).set c (.mkI 91 g p k v' x')).set a (({ ac := acn, tr := s.tr ++ [n], v := .slice ad (s.tr.length + 1) cap, m := some (g, v', x') } : TS).blk t) := by
      unfold TAt.next2
      have hrow : s1.row = ({ ac := acn, tr := s.tr ++ [n], v := .slice ad (s.tr.length + 1) cap, m := some (g, v', x') } : TS).row := by rw [hs1]; rfl
      rw [← hL3, hrow, List.set_comm _ _ ht.na0, List.set_comm _ _ ht.nr0, List.set_comm _ _ ht.nac, List.set_set, List.set_comm _ _ ht.nar]
      rw [List.set_comm _ _ ht.nac]
      rfl
    rw [e]; exact hl
  have HQ2 : Hid (∀ (W : World), Lies B W ((L3.set 0 (.disk p A')).set c (.mkI 91 g p k v' x')) → W.cell? ⟨t, 0, none⟩ = some (.pointer (some ⟨g, 0, none⟩)) ∧ W.frozen? ⟨t, 1, none⟩ = false ∧ W.cell? ⟨t, 1, none⟩ = some (.int .i64 s.ac)) := fun W hl => by
    have q : ((L3.set 0 (.disk p A')).set c (.mkI 91 g p k v' x'))[a]? = some (s1.blk t) := by rw [List.getElem?_set_ne ht.nac.symm, List.getElem?_set_ne ht.na0.symm]; exact ra
    obtain ⟨x0, x1, _, x3⟩ := tale_cells hl q
    rw [hs1] at x0 x1
    exact ⟨x0, x3 1, x1⟩
  have HVAL : Hid (∀ (W : World), Lies B W ((L3.set 0 (.disk p A')).set c (.mkI 91 g p k v' x')) → Calls Tryz.prog 13 #[.pointer (some ⟨g, 0, none⟩)] W fun e w' => e = .returned (.int .i64 v') ∧ w' = W) := fun W hl => mvalue_any hl (kget (by rw [List.getElem?_set_ne ht.nc0.symm]; exact rc) _)
  have HSTO : Hid (∀ (W : World) (acn : Int), Lies B W ((L3.set 0 (.disk p A')).set c (.mkI 91 g p k v' x')) → Lies B (W.setCell ⟨t, 1, none⟩ (.int .i64 acn)) (((L3.set 0 (.disk p A')).set c (.mkI 91 g p k v' x')).set a (({ ac := acn, tr := s.tr ++ [n], v := .slice ad (s.tr.length + 1) cap, m := some (g, v', x') } : TS).blk t)) ∧ Below B W (W.setCell ⟨t, 1, none⟩ (.int .i64 acn))) := fun W acn hl => by
    have q : ((L3.set 0 (.disk p A')).set c (.mkI 91 g p k v' x'))[a]? = some (s1.blk t) := by rw [List.getElem?_set_ne ht.nac.symm, List.getElem?_set_ne ht.na0.symm]; exact ra
    exact Lies.setBlk (o := 1) (.int .i64 acn) _ (by rw [hs1]; rfl) hl q
  have HSAM : Hid (∀ (W : World), Lies B W ((L3.set 0 (.disk p A')).set c (.mkI 91 g p k v' x')) → Lies B W (((L3.set 0 (.disk p A')).set c (.mkI 91 g p k v' x')).set a (({ ac := s.ac, tr := s.tr ++ [n], v := .slice ad (s.tr.length + 1) cap, m := some (g, v', x') } : TS).blk t))) := fun W hl => by
    have q : ((L3.set 0 (.disk p A')).set c (.mkI 91 g p k v' x'))[a]? = some (s1.blk t) := by rw [List.getElem?_set_ne ht.nac.symm, List.getElem?_set_ne ht.na0.symm]; exact ra
    have e : s1.blk t = ({ ac := s.ac, tr := s.tr ++ [n], v := .slice ad (s.tr.length + 1) cap, m := some (g, v', x') } : TS).blk t := by rw [hs1]; rfl
    rw [mset_same (by rw [q, e])]
    exact hl
  have HAP := hide hap2
  clear h ht hk hm hn hnb hc hcI d0 hap h2 hb2 h2' qa2 j0 fz2 h3 hb3 hL3 ra rd rc m0 hs1 hnv hv0 hlen hx hR
  go_enter Tryz.func22, Tryz.ntmps22
  go_wp2_with fail
  refine HV.out.mono ?_
  rintro e wa ⟨rfl, hw⟩
  obtain rfl := hw.symm
  clear hw HV
  go_wp2_with (first | (at_builtin; refine wpList_kapp rfl _ _ _ rfl HAP.out ?_; try go_frame) | fail)
  refine HR.out.mono ?_
  rintro e w4 ⟨rfl, h4, hb4⟩
  obtain ⟨n0, fz, n1⟩ := HQ2.out w4 h4
  have HV4 := hide (HVAL.out w4 h4)
  have H4 := hide h4
  have HB4 := hide (HB3.out.trans hb4)
  clear h4 hb4 HR HAP HB3 HVAL HQ2
  go_wp2_with fail
  refine HV4.out.mono ?_
  rintro e w5 ⟨rfl, hw⟩
  obtain rfl := hw.symm
  clear hw HV4
  by_cases hlt : n ≤ v
  · obtain ⟨rfl, rfl⟩ := hle hlt
    have dl : decide (n ≤ v') = true := decide_eq_true hlt
    have dv : (v' == v') = true := by simp
    have HI : Hid (acN = s.ac) := by show _ = _; rw [HACN.out, if_neg (by omega)]
    clear hle hno hyes hlt
    go_wp2
    go_ret
    refine ⟨rfl, HB4.out, .slice ad (s.tr.length + 1) cap, ?_⟩
    rw [HI.out]
    exact HNEXT.out _ _ (HSAM.out _ H4.out)
  · have dl : decide (n ≤ v) = false := decide_eq_false hlt
    by_cases hE : E = 0
    · subst hE
      obtain rfl := hyes (by omega) rfl
      have dv : (v' == v') = true := by simp
      have HI : Hid (acN = v') := by show _ = _; rw [HACN.out, if_pos ⟨by omega, rfl⟩]
      obtain ⟨w6, hw6⟩ : ∃ x, w4.setCell ⟨t, 1, none⟩ (.int .i64 v') = x := ⟨_, rfl⟩
      obtain ⟨h6, hb6⟩ := HSTO.out w4 v' H4.out
      rw [hw6] at h6 hb6
      have H6 := hide h6
      have HB6 := hide (HB4.out.trans hb6)
      clear hle hno hyes hlt h6 hb6
      go_wp2
      go_ret
      refine ⟨rfl, HB6.out, .slice ad (s.tr.length + 1) cap, ?_⟩
      rw [HI.out]
      exact HNEXT.out _ _ H6.out
    · obtain ⟨rfl, hE1, hE190⟩ := hno (by omega) hE
      have dv : (v' == v') = true := by simp
      have b0 : (E == 0) = false := beq_eq_false_iff_ne.2 hE
      have b0' : (E != 0) = true := by unfold bne; rw [b0]; rfl
      have b1 : (E == 1) = false := beq_eq_false_iff_ne.2 hE1
      have b1' : (E != 1) = true := by unfold bne; rw [b1]; rfl
      have b2 : (E == 190) = false := beq_eq_false_iff_ne.2 hE190
      have b2' : (E != 190) = true := by unfold bne; rw [b2]; rfl
      have HI : Hid (acN = s.ac) := by show _ = _; rw [HACN.out, if_neg (fun h => hE h.2)]
      clear hle hno hyes hlt hE hE1 hE190
      go_wp2
      go_ret
      refine ⟨rfl, HB4.out, .slice ad (s.tr.length + 1) cap, ?_⟩
      rw [HI.out]
      exact HNEXT.out _ _ (HSAM.out _ H4.out)
end
end Go.Proofs.YtlkimfmilccanaaGreat
