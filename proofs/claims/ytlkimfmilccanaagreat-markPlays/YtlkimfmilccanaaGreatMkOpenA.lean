import Derived.Test.YtlkimfmilccanaaGreatMkPlayA
import Derived.Test.YtlkimfmilccanaaGreatMkPlayB
import Derived.Test.YtlkimfmilccanaaGreatMkPlayC
import Derived.Test.YtlkimfmilccanaaGreatMkPlayO
import Derived.Test.YtlkimfmilccanaaGreatMkLaw
import Derived.Test.YtlkimfmilccanaaGreatKOpen
import Derived.Test.YtlkimfmilccanaaGreatMkPlayD
/-
  MarkPlays: the walk.
-/
namespace Go.Proofs.YtlkimfmilccanaaGreat
open Go.RowKit Go.Maps Go.WideMaps
set_option linter.unusedVariables false
set_option linter.unusedSimpArgs false
theorem plays_all {B : Nat} {w : World} {p r : Nat} {A : AD} {gb : Nat} {s0 s1 : PS} (h : Lies B w (PQ p r A A gb s0 s1 [])) (hx0 : xok s0) (hx1 : xok s1) (o : MOp) (hg : o.Good B w) :
    Calls Tryz.prog 30 #[.pointer (some ⟨gb, 0, none⟩), .agg #[.int .i64 o.kind, .bool o.two, .int .i64 o.n, .string o.text, .slice o.ad o.fates.length o.cap]] w fun e w' => e = .returned (.bool true) ∧ (∃ A' s0' s1', Lies B w' (PQ p r A' A' gb s0' s1' []) ∧ xok s0' ∧ xok s1') ∧ Below B w w' := by
  obtain ⟨kd, tw, n, T, ad, fates, cap⟩ := o
  have hg' : KGood B w [kd, n] [T] ad fates := hg
  simp only
  clear hg
  cases tw with
  | false =>
    by_cases k1 : kd = 1
    · subst k1
      exact play1_0 h hx0 hx1 n T ad fates cap
    by_cases k2 : kd = 2
    · subst k2
      cases hs : s0 with
      | none => exact play2n_0 h hx0 hx1 hs n T ad fates cap
      | some z =>
        obtain ⟨g, q, v, x⟩ := z
        exact play2s_0 h hx0 hx1 hs n T ad fates cap
    by_cases k3 : kd = 3
    · subst k3
      exact play3_0 h hx0 hx1 n T ad fates cap hg'
    by_cases k4 : kd = 4
    · subst k4
      exact play4_0 h hx0 hx1 n T ad fates cap hg'
    by_cases k5 : kd = 5
    · subst k5
      exact play5_0 h hx0 hx1 n T ad fates cap hg'
    by_cases k6 : kd = 6
    · subst k6
      exact play6_0 h hx0 hx1 n T ad fates cap hg'
    by_cases k7 : kd = 7
    · subst k7
      exact play7_0 h hx0 hx1 n T ad fates cap hg'
    by_cases k8 : kd = 8
    · subst k8
      exact play8_0 h hx0 hx1 n T ad fates cap hg'
    exact playE_0 h hx0 hx1 kd (beq_eq_false_iff_ne.2 k1) (beq_eq_false_iff_ne.2 k2) (beq_eq_false_iff_ne.2 k3) (beq_eq_false_iff_ne.2 k4) (beq_eq_false_iff_ne.2 k5) (beq_eq_false_iff_ne.2 k6) (beq_eq_false_iff_ne.2 k7) (beq_eq_false_iff_ne.2 k8) n T ad fates cap
  | true =>
    by_cases k1 : kd = 1
    · subst k1
      exact play1_1 h hx0 hx1 n T ad fates cap
    by_cases k2 : kd = 2
    · subst k2
      cases hs : s1 with
      | none => exact play2n_1 h hx0 hx1 hs n T ad fates cap
      | some z =>
        obtain ⟨g, q, v, x⟩ := z
        exact play2s_1 h hx0 hx1 hs n T ad fates cap
    by_cases k3 : kd = 3
    · subst k3
      exact play3_1 h hx0 hx1 n T ad fates cap hg'
    by_cases k4 : kd = 4
    · subst k4
      exact play4_1 h hx0 hx1 n T ad fates cap hg'
    by_cases k5 : kd = 5
    · subst k5
      exact play5_1 h hx0 hx1 n T ad fates cap hg'
    by_cases k6 : kd = 6
    · subst k6
      exact play6_1 h hx0 hx1 n T ad fates cap hg'
    by_cases k7 : kd = 7
    · subst k7
      exact play7_1 h hx0 hx1 n T ad fates cap hg'
    by_cases k8 : kd = 8
    · subst k8
      exact play8_1 h hx0 hx1 n T ad fates cap hg'
    exact playE_1 h hx0 hx1 kd (beq_eq_false_iff_ne.2 k1) (beq_eq_false_iff_ne.2 k2) (beq_eq_false_iff_ne.2 k3) (beq_eq_false_iff_ne.2 k4) (beq_eq_false_iff_ne.2 k5) (beq_eq_false_iff_ne.2 k6) (beq_eq_false_iff_ne.2 k7) (beq_eq_false_iff_ne.2 k8) n T ad fates cap
theorem Lies.voidEnd {B : Nat} {w : World} {L : List Item} (h : Lies B w L) : Lies B w (L ++ [.void]) := h.push (S' := fun _ => False) (Below.refl _ _) (fun b hb => hb) (fun b hb => hb.elim)
theorem drn_good {B : Nat} {w : World} {L : List Item} (h : Lies B w L) (cap : Int) (h0 : 0 ≤ cap) (h1 : cap ≤ 16777216) : Calls Tryz.prog 29 #[.int .i64 cap] w fun e w' => ∃ r, e = .returned (.tuple #[.pointer (some ⟨r, 0, none⟩), .int .i64 0]) ∧ Lies B w' (L ++ [.ref r (AD.fresh cap)]) ∧ Below B w w' := by
  refine (rNew_good w cap h0 h1).mono ?_
  rintro e w' ⟨rfl, ⟨s, hr, hrel⟩, hb⟩
  exact ⟨_, rfl, h.push (it := .ref w.heap.size (AD.fresh cap)) (S' := fun b => b = w.heap.size) hb ⟨s, [], hr, hrel⟩ (fun b hb' => by rw [hb']; exact Nat.le_refl _), hb.mono h.base⟩
set_option maxRecDepth 5000 in
set_option maxHeartbeats 40000000 in
theorem plays_walk (w : World) (cp : Int) (hcp : -9223372036854775808 ≤ cp ∧ cp < 9223372036854775808) (ad : Option Addr) (cap : Nat) (os : List MOp) (h : MRows w.heap.size w ad os) :
    Calls Tryz.prog 6 #[.int .i64 cp, .slice ad os.length cap] w fun e w' => e = .returned (.bool true) ∧ Below w.heap.size w w' := by
  have hlen : os.length * 64 ≤ 140737488355328 := h.sz
  obtain ⟨B, hB⟩ : ∃ B, w.heap.size = B := ⟨_, rfl⟩
  have hl0 : Lies B w [] := Lies.nil (by rw [hB]; exact Nat.le_refl _)
  rw [hB] at h ⊢
  have hr1 := least_rng (n := cp) (m := 1000) (by decide)
  obtain ⟨q1, hq1⟩ : ∃ q, leastI cp 1000 = q := ⟨_, rfl⟩
  rw [hq1] at hr1
  have HL1 : Hid (∀ w : World, Calls Tryz.prog 15 #[.int .i64 cp, .int .i64 1000] w fun e w' => e = .returned (.int .i64 q1) ∧ w' = w) := fun w => by rw [← hq1]; exact least_any cp 1000 (by decide) w
  have HQ : Hid (0 ≤ q1 ∧ q1 ≤ 16777216) := ⟨by omega, by omega⟩
  have HS := hide h
  have HL0 := hide hl0
  clear hB h hl0 hcp hr1 hq1
  go_enter Tryz.func6, Tryz.ntmps6
  go_wp2_with fail
  refine (head_any w).mono ?_
  rintro e w1 ⟨rfl, hb⟩
  have HB1 := hide (hb.mono HL0.out.base)
  have hc1 := k_new (HL0.out.below hb) q1 HQ.out.1 HQ.out.2
  clear hb HL0
  go_wp2_with fail
  refine (HL1.out _).mono ?_
  rintro e wx ⟨rfl, hw⟩
  obtain rfl := hw.symm
  clear hw HL1
  go_wp2_with fail
  refine hc1.mono ?_
  rintro e w2 ⟨p, rfl, h, hb⟩
  have HB2 := hide (HB1.out.trans hb)
  have hc2 := drn_good h q1 HQ.out.1 HQ.out.2
  clear h hb hc1 HB1
  go_wp2_with fail
  refine hc2.mono ?_
  rintro e w3 ⟨r, rfl, h, hb⟩
  have HB3 := hide (HB2.out.trans hb)
  obtain ⟨gb, hgb⟩ : ∃ x, w3.heap.size = x := ⟨_, rfl⟩
  obtain ⟨w4, hw4⟩ : ∃ x, w3.alloc (.cells #[.pointer (some ⟨p, 0, none⟩), .pointer (some ⟨r, 0, none⟩), .pointer none, .pointer none, .pointer none, .pointer none] 75) = x := ⟨_, rfl⟩
  obtain ⟨h4, hb4⟩ := h.box _ _ w4 hw4 gb hgb
  have H4 : Hid (Lies B w4 (PQ p r (AD.fresh q1) (AD.fresh q1) gb none none [])) := h4.voidEnd.voidEnd.voidEnd.voidEnd
  have HB4 := hide (HB3.out.trans hb4)
  clear h hb h4 hb4 hc2 HB2 HB3
  go_wp2
  go_loopw [11] (fun i wr => ∃ (k : Nat) (A : AD) (s0 s1 : PS), k ≤ os.length ∧ i = .int .i64 (k : Int) ∧ Lies B wr (PQ p r A A gb s0 s1 []) ∧ xok s0 ∧ xok s1 ∧ Below B w wr) (fun i _ => os.length - (intOf i).toNat)
  case atStart => exact ⟨0, _, none, none, by omega, rfl, H4.out, (fun z hz => by cases hz), (fun z hz => by cases hz), HB4.out⟩
  case round =>
    clear H4 HB4 hw4 hgb
    obtain ⟨k, A, s0, s1, hk, rfl, hlr, hx0, hx1, hbr⟩ := hrel
    by_cases hlt : k < os.length
    · have dk : decide ((k : Int) < (os.length : Int)) = true := decide_eq_true (by omega)
      have hk0 : (0 : Int) ≤ (k : Int) := by omega
      have hk1 : (k : Int) < (os.length : Int) := by omega
      have hsr := HS.out.below hbr
      obtain ⟨bb, oo, rfl, hcs⟩ := hsr.cells hlt
      obtain ⟨o, ho⟩ : ∃ x, os[k] = x := ⟨_, rfl⟩
      rw [ho] at hcs
      have hgood : o.Good B wr := hsr.good o (by rw [← ho]; exact List.getElem_mem hlt)
      have z0 : wr.cell? ⟨bb, oo + k * 5, none⟩ = some (.int .i64 o.kind) := hcs 0 (by omega)
      have z1 : wr.cell? ⟨bb, oo + k * 5 + 1, none⟩ = some (.bool o.two) := hcs 1 (by omega)
      have z2 : wr.cell? ⟨bb, oo + k * 5 + 2, none⟩ = some (.int .i64 o.n) := hcs 2 (by omega)
      have z3 : wr.cell? ⟨bb, oo + k * 5 + 3, none⟩ = some (.string o.text) := hcs 3 (by omega)
      have z4 : wr.cell? ⟨bb, oo + k * 5 + 4, none⟩ = some (.slice o.ad o.fates.length o.cap) := hcs 4 (by omega)
      have hc4 := plays_all hlr hx0 hx1 o hgood
      have HBR := hide hbr
      clear hlr hbr hsr hcs ho hgood hx0 hx1
      go_wp2_with fail
      refine hc4.mono ?_
      rintro e w5 ⟨rfl, ⟨A5, t0, t1, h, hy0, hy1⟩, hb⟩
      have HB5 := hide (HBR.out.trans hb)
      have hc5 := same_any (L := []) (show Lies B w5 (PL p r A5 gb t0 t1 []) from h)
      have HY0 := hide hy0
      have HY1 := hide hy1
      clear h hb hc4 HBR z0 z1 z2 z3 z4 hy0 hy1
      go_wp2_with fail
      refine hc5.mono ?_
      rintro e w6 ⟨rfl, h, hb⟩
      have HB6 := hide (HB5.out.trans hb)
      have H6 := hide h
      clear h hb hc5 HB5
      go_wp2
      go_roundw
      case rel => exact ⟨k + 1, A5, t0, t1, by omega, by go_num, H6.out, HY0.out, HY1.out, HB6.out⟩
      case measure => simp [intOf]; omega
    · have hkl : k = os.length := by omega
      subst hkl
      have dk : decide ((os.length : Int) < (os.length : Int)) = false := decide_eq_false (by omega)
      have HBR := hide hbr
      clear hlr hbr
      go_wp2
      go_ret
      exact ⟨rfl, HBR.out⟩
end Go.Proofs.YtlkimfmilccanaaGreat
/-
  The statements' scripts, opened.
-/
namespace Go.Proofs.YtlkimfmilccanaaGreat
open Go.ChangeShapes Go.WideShapes Go.ChangeAt Go.RowKit Go.Deep
set_option linter.unusedVariables false
theorem cellsN2 : Tryz.prog.cellsOf 2 = 1 := by kernel_rfl
section
variable {H : Type} {enc : TypeId × Value → H} {W : World} {base : Nat} {held : Bool}
theorem open_mop {n : Nat} {cs : List Value} {x : DataW H × List MemPlace} (h : DataW.trod enc Tryz.prog W 0 (fun _ => true) held n 59 cs = some x) (hz : Sz 59 x.1) :
    ∃ o : MOp, cs.length = 5 ∧ (∀ j, j < 5 → cs[j]? = o.cs[j]?) ∧ o.Good W.heap.size W := by
  obtain ⟨xs, m, _, hx, hl, hlen, hf⟩ := DataW.trod_struct Tryz.underlying59 h
  have hl5 : xs.length = 5 := hlen
  have g : ∀ (i : Nat) (hi : i < xs.length), xs[i]? = some xs[i] := fun i hi => List.getElem?_eq_getElem hi
  have f0 : DataW.trod enc Tryz.prog W 0 (fun _ => true) held m 3 ((cs.drop 0).take (Tryz.prog.cellsOf 3)) = some xs[0] := (hf 0 _ rfl).trans (g 0 (by omega))
  rw [cellsN3] at f0
  have f1 : DataW.trod enc Tryz.prog W 0 (fun _ => true) held m 4 ((cs.drop 1).take (Tryz.prog.cellsOf 4)) = some xs[1] := (hf 1 _ rfl).trans (g 1 (by omega))
  rw [cellsN4] at f1
  have f2 : DataW.trod enc Tryz.prog W 0 (fun _ => true) held m 2 ((cs.drop 2).take (Tryz.prog.cellsOf 2)) = some xs[2] := (hf 2 _ rfl).trans (g 2 (by omega))
  rw [cellsN2] at f2
  have f3 : DataW.trod enc Tryz.prog W 0 (fun _ => true) held m 9 ((cs.drop 3).take (Tryz.prog.cellsOf 9)) = some xs[3] := (hf 3 _ rfl).trans (g 3 (by omega))
  rw [cellsN9] at f3
  have f4 : DataW.trod enc Tryz.prog W 0 (fun _ => true) held m 57 ((cs.drop 4).take (Tryz.prog.cellsOf 57)) = some xs[4] := (hf 4 _ rfl).trans (g 4 (by omega))
  rw [cellsNFs] at f4
  rw [hx] at hz
  obtain ⟨z0, e0, _, w0⟩ := DataW.trod_int Tryz.underlying3 f0
  obtain ⟨z1, e1, _⟩ := DataW.trod_bool Tryz.underlying4 f1
  obtain ⟨z2, e2, _, w2⟩ := DataW.trod_int Tryz.underlying2 f2
  obtain ⟨z3, e3, y3, w3⟩ := DataW.trod_string Tryz.underlying9 f3
  have hz3 : z3.size ≤ 140737488355328 := by
    have h1 := Sz.part hz Tryz.underlying59 (j := 3) (t' := 9) rfl (d := xs[3].1) (by rw [List.getElem?_map, g 3 (by omega)]; rfl)
    rw [y3] at h1
    have := h1.str
    rw [str_len] at this
    unfold reachBytes at this
    omega
  have hz4 : Sz 57 xs[4].1 := Sz.part hz Tryz.underlying59 (j := 4) (t' := 57) rfl (d := xs[4].1) (by rw [List.getElem?_map, g 4 (by omega)]; rfl)
  obtain ⟨ad, ls, cap, e4, hfa, hok, hln, hlt⟩ := open_fates f4 hz4
  refine ⟨⟨z0, z1, z2, z3, ad, ls, cap⟩, by rw [hl]; kernel_rfl, fun j hj => ?_, ⟨?_, ?_, ⟨hfa, fun hne b f hb => hlt b f hb hne, hok, hln⟩⟩⟩
  · match j, hj with
    | 0, _ => exact one_cell e0
    | 1, _ => exact one_cell e1
    | 2, _ => exact one_cell e2
    | 3, _ => exact one_cell e3
    | 4, _ => exact one_cell e4
  · intro n hn
    simp only [List.mem_cons, List.not_mem_nil, or_false] at hn
    rcases hn with rfl | rfl
    · exact int_wf w0
    · exact int_wf w2
  · intro s hs
    simp only [List.mem_cons, List.not_mem_nil, or_false] at hs
    rcases hs with rfl
    exact hz3
theorem open_mops {ad : Option Addr} {len cap : Nat} {d : DataW H} {p : List MemPlace} (h : DataW.Trod enc Tryz.prog W 0 (fun _ => true) held 51 (.slice ad len cap) d p) (hz : Sz 51 d) :
    ∃ os : List MOp, os.length = len ∧ MRows W.heap.size W ad os := by
  obtain ⟨fuel, hf⟩ := h
  rcases open_slice Tryz.underlying51 hf with ⟨hcs, hx⟩ | ⟨a, len', cap', m, n, D, Pl, hcs, _, hl, hm, hmm, hx, hel⟩
  · simp [Value.cells] at hcs
    obtain ⟨rfl, rfl, rfl⟩ := hcs
    exact ⟨[], rfl, ⟨.inl rfl, by simp, by simp, by simp⟩⟩
  · simp [Value.cells] at hcs
    obtain ⟨rfl, rfl, rfl⟩ := hcs
    simp only [if_true] at hmm
    subst hmm
    simp only [Prod.mk.injEq] at hx
    rw [show Tryz.prog.cellsOf 59 = 5 by kernel_rfl] at hel
    rw [hx.1] at hz
    have hbig : len * 64 ≤ reachBytes := by
      have h1 := hz ((((List.range len).map D).length + ((List.range (m - len)).map fun j => D (len + j)).length) * Tryz.prog.bytesOf 59) (by
        unfold DataW.weights
        rw [Tryz.underlying51]
        exact List.mem_cons_self ..)
      have hbo : Tryz.prog.bytesOf 59 = 64 := by kernel_rfl
      rw [hbo] at h1
      simp only [List.length_map, List.length_range] at h1
      omega
    have hex : ∀ i, i < len → ∃ O : MOp, (∀ j, j < 5 → W.cell? ((a.add (i * 5)).add j) = O.cs[j]?) ∧ O.Good W.heap.size W := fun i hi => by
      obtain ⟨cs', h1, h2⟩ := hel i (by omega)
      obtain ⟨_, hln, hget⟩ := World.cells?_some h1
      obtain ⟨O, _, hO, hok⟩ := open_mop h2 (hz.elem Tryz.underlying51 (List.mem_map.2 ⟨i, List.mem_range.2 hi, rfl⟩))
      exact ⟨O, fun j hj => by rw [hget j hj, hO j hj], hok⟩
    have hin : Inhabited MOp := ⟨⟨0, false, 0, ⟨#[]⟩, none, [], 0⟩⟩
    obtain ⟨f, hfv⟩ := choose_lt (α := MOp) hex
    have hlen : ((List.range len).map f).length = len := by simp
    have hat : ((List.range len).map f = [] ∨ ∃ b o, (some a : Option Addr) = some ⟨b, o, none⟩ ∧ b < W.heap.size ∧ ∀ i (h : i < ((List.range len).map f).length) j, j < 5 → W.cell? ⟨b, o + i * 5 + j, none⟩ = (MOp.cs ((List.range len).map f)[i])[j]?) ∧ ((List.range len).map f ≠ [] → ∀ b o, (some a : Option Addr) = some ⟨b, o, none⟩ → b < W.heap.size) := by
      by_cases hl0 : len = 0
      · subst hl0; exact ⟨.inl rfl, fun hne => absurd rfl hne⟩
      · obtain ⟨b, off, spot⟩ := a
        have hs : (f 0).cs[0]? = some (.int .i64 (f 0).kind) := rfl
        have hspot : spot = none := by
          have h00 := (hfv 0 (by omega)).1 0 (by omega)
          rw [hs] at h00
          simpa [Addr.add] using World.cell?_spot h00
        subst hspot
        have hadd : ∀ i j, ((⟨b, off, none⟩ : Addr).add (i * 5)).add j = ⟨b, off + i * 5 + j, none⟩ := fun i j => by
          rw [add_add]; unfold Addr.add; split <;> simp_all <;> omega
        have hlt : b < W.heap.size := by
          have h00 := (hfv 0 (by omega)).1 0 (by omega)
          rw [hadd, hs] at h00
          exact World.block_lt_of_cell? _ _ h00
        refine ⟨.inr ⟨b, off, rfl, hlt, fun i hi j hj => ?_⟩, fun _ b' o' hb' => by cases hb'; exact hlt⟩
        have hi' : i < len := by simpa using hi
        have := (hfv i hi').1 j hj
        rw [hadd] at this
        simpa using this
    exact ⟨(List.range len).map f, hlen, ⟨hat.1, hat.2, fun O hO => by
      obtain ⟨i, hi, rfl⟩ := List.mem_map.1 hO
      exact (hfv i (List.mem_range.1 hi)).2, by rw [hlen]; unfold reachBytes at hbig; omega⟩⟩
end
end Go.Proofs.YtlkimfmilccanaaGreat
