/-
  CheckPlays: a step on both disks; the walk (printed by gen_plays.py).
-/
import Derived.Test.YtobfijpfdibccaaGreatKSame
import Derived.Test.YtobfijpfdibccaaGreatKArgs
namespace Go.Proofs.YtobfijpfdibccaaGreat
open Go.RowKit Go.Maps Go.WideMaps
set_option linter.unusedVariables false
def KB3 (p r : Nat) (A1 A2 : AD) (g : Nat) (CS : Array Value) : List Item := [.disk p A1, .ref r A2, .block g (.cells CS 34 (0, 0))]
section
variable {B : Nat} {w : World} {p r : Nat} {A : AD}
set_option maxRecDepth 5000 in
set_option maxHeartbeats 40000000 in
theorem kplays_any (h : Lies B w [.disk p A, .ref r A]) (o : KOp) (hg : o.Good B w) :
    Calls Tryz.prog 7 #[.pointer (some ⟨p, 0, none⟩), .pointer (some ⟨r, 0, none⟩), .agg o.cs] w fun e w' => e = .returned (.bool true) ∧ (∃ A', Lies B w' [.disk p A', .ref r A']) ∧ Below B w w' := by
  have hok := h.ok (i := 0) rfl
  obtain ⟨g, hgg⟩ : ∃ g, w.heap.size = g := ⟨_, rfl⟩
  obtain ⟨CS, hCS⟩ : ∃ c, o.cs = c := ⟨_, rfl⟩
  obtain ⟨w0, hw0⟩ : ∃ w0, w.alloc (.cells CS 34) = w0 := ⟨_, rfl⟩
  have hb0 : Below w.heap.size w w0 := by rw [← hw0]; exact (Below.refl _ _).alloc (Nat.le_refl _) _
  have hk0 : w0.heap[g]? = some (.cells CS 34 (0, 0)) := by rw [← hw0, ← hgg]; exact heap_alloc_new w _
  have h0 : Lies B w0 (KB3 p r A A g CS) := h.push (S' := fun b => b = g) hb0 ⟨hk0, fun _ => Iff.rfl⟩ (fun b hb => by rw [hb, hgg]; exact Nat.le_refl _)
  have hB0 := hb0.mono h.base
  have H0 := hide h0
  have HB0 := hide hB0
  have HOK := hide hok
  have HG : Hid (KGood B w0 [o.kind, o.at_, o.n] [o.name, o.text] o.ad o.fates) := KGood.below hg hB0
  have HCELL : Hid (CS = #[.int .i64 o.kind, .string o.name, .string o.text, .int .i64 o.at_, .int .i64 o.n, .slice o.ad o.fates.length o.cap]) := by show _ = _; rw [← hCS]; rfl
  have hw0' : w.alloc (.cells #[.int .i64 o.kind, .string o.name, .string o.text, .int .i64 o.at_, .int .i64 o.n, .slice o.ad o.fates.length o.cap] 34) = w0 := by rw [← HCELL.out]; exact hw0
  have z0 : w0.cell? ⟨g, 0, none⟩ = some (.int .i64 o.kind) := by rw [kcell (q := 2) h0 rfl, HCELL.out]; rfl
  have z1 : w0.cell? ⟨g, 1, none⟩ = some (.string o.name) := by rw [kcell (q := 2) h0 rfl, HCELL.out]; rfl
  have z2 : w0.cell? ⟨g, 2, none⟩ = some (.string o.text) := by rw [kcell (q := 2) h0 rfl, HCELL.out]; rfl
  have z3 : w0.cell? ⟨g, 3, none⟩ = some (.int .i64 o.at_) := by rw [kcell (q := 2) h0 rfl, HCELL.out]; rfl
  have z4 : w0.cell? ⟨g, 4, none⟩ = some (.int .i64 o.n) := by rw [kcell (q := 2) h0 rfl, HCELL.out]; rfl
  have z5 : w0.cell? ⟨g, 5, none⟩ = some (.slice o.ad o.fates.length o.cap) := by rw [kcell (q := 2) h0 rfl, HCELL.out]; rfl
  have hname : o.name.size ≤ maxLen := by have := HG.out.strs o.name (by simp); unfold maxLen; omega
  have HNZ := hide hname
  have HTZ := hide (HG.out.strs o.text (by simp))
  have HAT := hide (HG.out.ints o.at_ (by simp))
  have HNN := hide (HG.out.ints o.n (by simp))
  unfold KOp.cs
  clear h hok hCS hw0 hb0 hk0 h0 hB0 hname hg
  by_cases k1 : o.kind = 1
  · have d1 : (o.kind == 1) = true := beq_iff_eq.2 k1
    obtain ⟨E, hE⟩ : ∃ E, (A.save o.name.data.toList o.text.data.toList).1 = E := ⟨_, rfl⟩
    obtain ⟨A1, hA1⟩ : ∃ X, (A.save o.name.data.toList o.text.data.toList).2 = X := ⟨_, rfl⟩
    have hc := save_any (i := 0) H0.out rfl o.name o.text
    rw [hE, hA1] at hc
    have HE := hide hE
    have HA1 := hide hA1
    clear k1 hE hA1
    go_enter Tryz.func7, Tryz.ntmps7
    go_wp2_with fail
    refine hc.mono ?_
    rintro e w2 ⟨rfl, h, hb⟩
    have h2 : Lies B w2 (KB3 p r A1 A g CS) := h
    have HB2 := hide (HB0.out.trans hb)
    have w2f1 : w2.cell? ⟨g, 1, none⟩ = some (.string o.name) := by rw [kcell (q := 2) h2 rfl, HCELL.out]; rfl
    have w2f2 : w2.cell? ⟨g, 2, none⟩ = some (.string o.text) := by rw [kcell (q := 2) h2 rfl, HCELL.out]; rfl
    have hc2 := rSave_any (i := 1) h2 rfl HOK.out o.name o.text HNZ.out
    rw [HE.out, HA1.out] at hc2
    clear h h2 hb hc
    go_wp2_with fail
    refine hc2.mono ?_
    rintro e w3 ⟨rfl, h, hb⟩
    have H9 : Hid (Lies B w3 ([.disk p A1, .ref r A1] ++ [.block g (.cells CS 34 (0, 0))])) := h
    have HB9 := hide (HB2.out.trans hb)
    clear h hb hc2
    go_wp2
    go_ret
    exact ⟨rfl, ⟨A1, H9.out.drop⟩, HB9.out⟩
  have e1 : (o.kind == 1) = false := beq_eq_false_iff_ne.2 k1
  by_cases k2 : o.kind = 2
  · have d2 : (o.kind == 2) = true := beq_iff_eq.2 k2
    obtain ⟨V, hV⟩ : ∃ V : ByteArray, (⟨(A.load o.name.data.toList).1.toArray⟩ : ByteArray) = V := ⟨_, rfl⟩
    obtain ⟨E, hE⟩ : ∃ E, (A.load o.name.data.toList).2 = E := ⟨_, rfl⟩
    have hc := load_any (i := 0) H0.out rfl o.name
    rw [hV, hE] at hc
    have HE := hide hE
    have HV := hide hV
    clear k2 hE hV
    go_enter Tryz.func7, Tryz.ntmps7
    go_wp2_with fail
    refine hc.mono ?_
    rintro e w2 ⟨rfl, h2, hb⟩
    have HB2 := hide (HB0.out.trans hb)
    have w2f1 : w2.cell? ⟨g, 1, none⟩ = some (.string o.name) := by rw [kcell (q := 2) h2 rfl, HCELL.out]; rfl
    have hc2 := rLoad_any (i := 1) h2 rfl HOK.out o.name HNZ.out
    rw [HE.out, HV.out] at hc2
    clear h2 hb hc
    go_wp2_with fail
    refine hc2.mono ?_
    rintro e w3 ⟨rfl, h, hb⟩
    have H9 : Hid (Lies B w3 ([.disk p A, .ref r A] ++ [.block g (.cells CS 34 (0, 0))])) := h
    have HB9 := hide (HB2.out.trans hb)
    clear h hb hc2
    go_wp2
    go_ret
    exact ⟨rfl, ⟨A, H9.out.drop⟩, HB9.out⟩
  have e2 : (o.kind == 2) = false := beq_eq_false_iff_ne.2 k2
  by_cases k3 : o.kind = 3
  · have d3 : (o.kind == 3) = true := beq_iff_eq.2 k3
    have hc := s_arm (i := 0) H0.out rfl o.n o.at_ HNN.out
    clear k3
    go_enter Tryz.func7, Tryz.ntmps7
    go_wp2_with fail
    refine hc.mono ?_
    rintro e w2 ⟨rfl, h, hb⟩
    have h2 : Lies B w2 (KB3 p r (A.armed o.n o.at_) A g CS) := h
    have HB2 := hide (HB0.out.trans hb)
    have w2f4 : w2.cell? ⟨g, 4, none⟩ = some (.int .i64 o.n) := by rw [kcell (q := 2) h2 rfl, HCELL.out]; rfl
    have w2f3 : w2.cell? ⟨g, 3, none⟩ = some (.int .i64 o.at_) := by rw [kcell (q := 2) h2 rfl, HCELL.out]; rfl
    have hc2 := r_arm (i := 1) h2 rfl o.n o.at_
    clear h h2 hb hc
    go_wp2_with fail
    refine hc2.mono ?_
    rintro e w3 ⟨rfl, h, hb⟩
    have H9 : Hid (Lies B w3 ([.disk p (A.armed o.n o.at_), .ref r (A.armed o.n o.at_)] ++ [.block g (.cells CS 34 (0, 0))])) := h
    have HB9 := hide (HB2.out.trans hb)
    clear h hb hc2
    go_wp2
    go_ret
    exact ⟨rfl, ⟨A.armed o.n o.at_, H9.out.drop⟩, HB9.out⟩
  have e3 : (o.kind == 3) = false := beq_eq_false_iff_ne.2 k3
  by_cases k4 : o.kind = 4
  · have d4 : (o.kind == 4) = true := beq_iff_eq.2 k4
    have hc := s_fall (i := 0) H0.out rfl o.n HNN.out
    clear k4
    go_enter Tryz.func7, Tryz.ntmps7
    go_wp2_with fail
    refine hc.mono ?_
    rintro e w2 ⟨rfl, h, hb⟩
    have h2 : Lies B w2 (KB3 p r (A.fallen o.n) A g CS) := h
    have HB2 := hide (HB0.out.trans hb)
    have w2f4 : w2.cell? ⟨g, 4, none⟩ = some (.int .i64 o.n) := by rw [kcell (q := 2) h2 rfl, HCELL.out]; rfl
    have hc2 := r_fall (i := 1) h2 rfl o.n
    clear h h2 hb hc
    go_wp2_with fail
    refine hc2.mono ?_
    rintro e w3 ⟨rfl, h, hb⟩
    have H9 : Hid (Lies B w3 ([.disk p (A.fallen o.n), .ref r (A.fallen o.n)] ++ [.block g (.cells CS 34 (0, 0))])) := h
    have HB9 := hide (HB2.out.trans hb)
    clear h hb hc2
    go_wp2
    go_ret
    exact ⟨rfl, ⟨A.fallen o.n, H9.out.drop⟩, HB9.out⟩
  have e4 : (o.kind == 4) = false := beq_eq_false_iff_ne.2 k4
  by_cases k5 : o.kind = 5
  · have d5 : (o.kind == 5) = true := beq_iff_eq.2 k5
    have hc := r_crash (i := 1) H0.out rfl HOK.out o.ad o.cap o.fates HG.out.fates.at_ (by have := HG.out.fates.sz; omega)
    clear k5
    go_enter Tryz.func7, Tryz.ntmps7
    go_wp2_with fail
    refine hc.mono ?_
    rintro e w2 ⟨rfl, h, hb⟩
    have h2 : Lies B w2 (KB3 p r A (A.crash (o.fates.map FT.abs)) g CS) := h
    have HB2 := hide (HB0.out.trans hb)
    have w2f5 : w2.cell? ⟨g, 5, none⟩ = some (.slice o.ad o.fates.length o.cap) := by rw [kcell (q := 2) h2 rfl, HCELL.out]; rfl
    obtain ⟨ad5, n5, cap5, w5, hap, hcr⟩ := kcrash (i := 0) h2 rfl o.ad o.cap o.fates (HG.out.fates.below hb) 32
    have HCR := hide hcr
    clear h h2 hb hc hcr
    go_wp2_with (first | (at_builtin; refine wpList_kapp rfl _ _ _ rfl hap ?_; try go_frame) | fail)
    refine HCR.out.mono ?_
    rintro e w6 ⟨rfl, h, hb⟩
    have H9 : Hid (Lies B w6 ([.disk p (A.crash (o.fates.map FT.abs)), .ref r (A.crash (o.fates.map FT.abs))] ++ [.block g (.cells CS 34 (0, 0))])) := h
    have HB9 := hide (HB2.out.trans hb)
    clear h hb hap HCR
    go_wp2
    go_ret
    exact ⟨rfl, ⟨_, H9.out.drop⟩, HB9.out⟩
  have e5 : (o.kind == 5) = false := beq_eq_false_iff_ne.2 k5
  by_cases k6 : o.kind = 6
  · have d6 : (o.kind == 6) = true := beq_iff_eq.2 k6
    have hc := s_on (i := 0) H0.out rfl
    clear k6
    go_enter Tryz.func7, Tryz.ntmps7
    go_wp2_with fail
    refine hc.mono ?_
    rintro e w2 ⟨rfl, h, hb⟩
    have h2 : Lies B w2 (KB3 p r (A.on) A g CS) := h
    have HB2 := hide (HB0.out.trans hb)
    have hc2 := r_on (i := 1) h2 rfl HOK.out
    clear h h2 hb hc
    go_wp2_with fail
    refine hc2.mono ?_
    rintro e w3 ⟨rfl, h, hb⟩
    have H9 : Hid (Lies B w3 ([.disk p (A.on), .ref r (A.on)] ++ [.block g (.cells CS 34 (0, 0))])) := h
    have HB9 := hide (HB2.out.trans hb)
    clear h hb hc2
    go_wp2
    go_ret
    exact ⟨rfl, ⟨A.on, H9.out.drop⟩, HB9.out⟩
  have e6 : (o.kind == 6) = false := beq_eq_false_iff_ne.2 k6
  by_cases k7 : o.kind = 7
  · have d7 : (o.kind == 7) = true := beq_iff_eq.2 k7
    obtain ⟨E, hE⟩ : ∃ E, (A.write o.name.data.toList o.at_ o.text.data.toList).1 = E := ⟨_, rfl⟩
    obtain ⟨A1, hA1⟩ : ∃ X, (A.write o.name.data.toList o.at_ o.text.data.toList).2 = X := ⟨_, rfl⟩
    have hc := s_write (i := 0) H0.out rfl o.name HNZ.out o.at_ HAT.out o.text HTZ.out
    rw [hE, hA1] at hc
    have HE := hide hE
    have HA1 := hide hA1
    clear k7 hE hA1
    go_enter Tryz.func7, Tryz.ntmps7
    go_wp2_with fail
    refine hc.mono ?_
    rintro e w2 ⟨rfl, h, hb⟩
    have h2 : Lies B w2 (KB3 p r A1 A g CS) := h
    have HB2 := hide (HB0.out.trans hb)
    have w2f1 : w2.cell? ⟨g, 1, none⟩ = some (.string o.name) := by rw [kcell (q := 2) h2 rfl, HCELL.out]; rfl
    have w2f2 : w2.cell? ⟨g, 2, none⟩ = some (.string o.text) := by rw [kcell (q := 2) h2 rfl, HCELL.out]; rfl
    have w2f3 : w2.cell? ⟨g, 3, none⟩ = some (.int .i64 o.at_) := by rw [kcell (q := 2) h2 rfl, HCELL.out]; rfl
    have hc2 := r_write (i := 1) h2 rfl HOK.out o.name HNZ.out o.at_ HAT.out o.text HTZ.out
    rw [HE.out, HA1.out] at hc2
    clear h h2 hb hc
    go_wp2_with fail
    refine hc2.mono ?_
    rintro e w3 ⟨rfl, h, hb⟩
    have H9 : Hid (Lies B w3 ([.disk p A1, .ref r A1] ++ [.block g (.cells CS 34 (0, 0))])) := h
    have HB9 := hide (HB2.out.trans hb)
    clear h hb hc2
    go_wp2
    go_ret
    exact ⟨rfl, ⟨A1, H9.out.drop⟩, HB9.out⟩
  have e7 : (o.kind == 7) = false := beq_eq_false_iff_ne.2 k7
  have H9 : Hid (Lies B w0 ([.disk p A, .ref r A] ++ [.block g (.cells CS 34 (0, 0))])) := H0.out
  have HB9 := HB0
  go_enter Tryz.func7, Tryz.ntmps7
  go_wp2
  go_ret
  exact ⟨rfl, ⟨A, H9.out.drop⟩, HB9.out⟩
end
def KRo := KRows KOp.cs KOp.Good
theorem KRo.below {B : Nat} {w w' : World} {ad : Option Addr} {xs : List KOp} (h : KRo B w ad xs) (hb : Below B w w') : KRo B w' ad xs := KRows.below (cs := KOp.cs) (good := KOp.Good) (fun B w w' x h hb => (KGood.below (show KGood B w [x.kind, x.at_, x.n] [x.name, x.text] x.ad x.fates from h) hb : KGood B w' [x.kind, x.at_, x.n] [x.name, x.text] x.ad x.fates)) h hb
theorem krn_good {B : Nat} {w : World} {L : List Item} (h : Lies B w L) (cap : Int) (h0 : 0 ≤ cap) (h1 : cap ≤ 16777216) : Calls Tryz.prog 5 #[.int .i64 cap] w fun e w' => ∃ r, e = .returned (.tuple #[.pointer (some ⟨r, 0, none⟩), .int .i64 0]) ∧ Lies B w' (L ++ [.ref r (AD.fresh cap)]) ∧ Below B w w' := by
  refine (rNew_good w cap h0 h1).mono ?_
  rintro e w' ⟨rfl, ⟨s, hr, hrel⟩, hb⟩
  exact ⟨_, rfl, h.push (it := .ref w.heap.size (AD.fresh cap)) (S' := fun b => b = w.heap.size) hb ⟨s, [], hr, hrel⟩ (fun b hb' => by rw [hb']; exact Nat.le_refl _), hb.mono h.base⟩
set_option maxRecDepth 5000 in
set_option maxHeartbeats 40000000 in
theorem kplays_walk (w : World) (cp : Int) (hcp : -9223372036854775808 ≤ cp ∧ cp < 9223372036854775808) (ad : Option Addr) (cap : Nat) (os : List KOp) (h : KRo w.heap.size w ad os) :
    Calls Tryz.prog 3 #[.int .i64 cp, .slice ad os.length cap] w fun e w' => e = .returned (.bool true) ∧ Below w.heap.size w w' := by
  have hlen := h.len
  unfold maxLen at hlen
  obtain ⟨B, hB⟩ : ∃ B, w.heap.size = B := ⟨_, rfl⟩
  have hl0 : Lies B w [] := Lies.nil (by rw [hB]; exact Nat.le_refl _)
  rw [hB] at h ⊢
  have HS := hide h
  have HL0 := hide hl0
  clear hB h hcp hl0
  by_cases hbad : cp < 0 ∨ 16777216 < cp
  · have hc1 := new_bad w cp hbad
    have hc2 := rNew_bad w cp hbad
    clear hbad
    go_enter Tryz.func3, Tryz.ntmps3
    go_wp2_with fail
    refine hc1.mono ?_
    rintro e w1 ⟨rfl, hw⟩
    obtain rfl := hw.symm
    clear hw hc1
    go_wp2_with fail
    refine hc2.mono ?_
    rintro e w2 ⟨rfl, hw⟩
    obtain rfl := hw.symm
    clear hw hc2
    go_wp2_with fail
    refine (kFirst_any w).mono ?_
    rintro e w3 ⟨rfl, hb⟩
    have HB3 := hide (hb.mono HL0.out.base)
    clear hb
    go_wp2
    go_ret
    exact ⟨rfl, HB3.out⟩
  have hc1 := k_new HL0.out cp (by omega) (by omega)
  have HCP : Hid (0 ≤ cp ∧ cp ≤ 16777216) := ⟨by omega, by omega⟩
  clear hbad
  go_enter Tryz.func3, Tryz.ntmps3
  go_wp2_with fail
  refine hc1.mono ?_
  rintro e w1 ⟨p, rfl, h, hb⟩
  have HB1 := hide hb
  have hc2 := krn_good h cp HCP.out.1 HCP.out.2
  clear h hb hc1
  go_wp2_with fail
  refine hc2.mono ?_
  rintro e w2 ⟨r, rfl, h, hb⟩
  have HB2 := hide (HB1.out.trans hb)
  have H2 : Hid (Lies B w2 [.disk p (AD.fresh cp), .ref r (AD.fresh cp)]) := h
  clear h hb hc2 HB1
  go_wp2_with fail
  refine (kFirst_any w2).mono ?_
  rintro e w3 ⟨rfl, hb⟩
  have H3 := hide (H2.out.below hb)
  have HB3 := hide (HB2.out.trans (hb.mono H2.out.base))
  clear hb H2 HB2
  go_wp2
  go_loopw [9] (fun i wr => ∃ (k : Nat) (A : AD), k ≤ os.length ∧ i = .int .i64 (k : Int) ∧ Lies B wr [.disk p A, .ref r A] ∧ Below B w wr) (fun i _ => os.length - (intOf i).toNat)
  case atStart => exact ⟨0, _, by omega, rfl, H3.out, HB3.out⟩
  case round =>
    clear H3 HB3
    obtain ⟨k, A, hk, rfl, hlr, hbr⟩ := hrel
    by_cases hlt : k < os.length
    · have dk : decide ((k : Int) < (os.length : Int)) = true := decide_eq_true (by omega)
      have hk0 : (0 : Int) ≤ (k : Int) := by omega
      have hk1 : (k : Int) < (os.length : Int) := by omega
      have hsr := HS.out.below hbr
      obtain ⟨bb, oo, rfl, hcs⟩ := hsr.cells hlt
      obtain ⟨x, hx⟩ : ∃ x, os[k] = x := ⟨_, rfl⟩
      rw [hx] at hcs
      have hgood : x.Good B wr := hsr.good x (by rw [← hx]; exact List.getElem_mem hlt)
      have s0 : wr.cell? ⟨bb, oo + k * 6, none⟩ = some (.int .i64 x.kind) := hcs 0 (by omega)
      have s1 : wr.cell? ⟨bb, oo + k * 6 + 1, none⟩ = some (.string x.name) := hcs 1 (by omega)
      have s2 : wr.cell? ⟨bb, oo + k * 6 + 2, none⟩ = some (.string x.text) := hcs 2 (by omega)
      have s3 : wr.cell? ⟨bb, oo + k * 6 + 3, none⟩ = some (.int .i64 x.at_) := hcs 3 (by omega)
      have s4 : wr.cell? ⟨bb, oo + k * 6 + 4, none⟩ = some (.int .i64 x.n) := hcs 4 (by omega)
      have s5 : wr.cell? ⟨bb, oo + k * 6 + 5, none⟩ = some (.slice x.ad x.fates.length x.cap) := hcs 5 (by omega)
      have hc4 := kplays_any hlr x hgood
      unfold KOp.cs at hc4
      have HBR := hide hbr
      clear hlr hbr hsr hcs hx hgood
      go_wp2_with fail
      refine hc4.mono ?_
      rintro e w4 ⟨rfl, ⟨A4, h⟩, hb⟩
      have HB4 := hide (HBR.out.trans hb)
      have hc5 := sameDisk_any (i := 0) (j := 1) h rfl rfl
      clear h hb hc4 HBR s0 s1 s2 s3 s4 s5
      go_wp2_with fail
      refine hc5.mono ?_
      rintro e w5 ⟨rfl, h, hb⟩
      have HB5 := hide (HB4.out.trans hb)
      have H5 := hide h
      clear h hb hc5 HB4
      go_wp2
      go_roundw
      case rel => exact ⟨k + 1, A4, by omega, by go_num, H5.out, HB5.out⟩
      case measure => simp [intOf]; omega
    · have hkl : k = os.length := by omega
      subst hkl
      have dk : decide ((os.length : Int) < (os.length : Int)) = false := decide_eq_false (by omega)
      have HBR := hide hbr
      clear hlr hbr
      go_wp2
      go_ret
      exact ⟨rfl, HBR.out⟩
end Go.Proofs.YtobfijpfdibccaaGreat
