/-
  DiskPlays: the walk.
-/
import Derived.Test.YtcmhfpiglacdaaaGreatRefCopied
namespace Go.Proofs.YtcmhfpiglacdaaaGreat
open Go.RowKit Go.Maps Go.WideMaps
set_option linter.unusedVariables false
set_option linter.unusedSimpArgs false
def Nil2 (v x : Value) : Prop := v = .pointer none ∧ x = .pointer none
def At2 (L : List Item) (i j : Nat) (v x : Value) : Prop := ∃ p r A, v = .pointer (some ⟨p, 0, none⟩) ∧ x = .pointer (some ⟨r, 0, none⟩) ∧ i ≠ j ∧ L[i]? = some (.disk p A) ∧ L[j]? = some (.ref r A)
def Side (L : List Item) (P : Nat → Prop) (v x : Value) : Prop := Nil2 v x ∨ ∃ i j, P i ∧ P j ∧ At2 L i j v x
def Two (L : List Item) (va vx vb vy : Value) : Prop := ∃ P1 P2 : Nat → Prop, (∀ n, P1 n → ¬ P2 n) ∧ Side L P1 va vx ∧ Side L P2 vb vy
theorem Two.swap {L : List Item} {va vx vb vy : Value} (h : Two L va vx vb vy) : Two L vb vy va vx := by
  obtain ⟨P1, P2, h1, h2, h3⟩ := h
  exact ⟨P2, P1, fun n a b => h1 n b a, h3, h2⟩
theorem Side.keep {L L' : List Item} {P : Nat → Prop} {v x : Value} (h : Side L P v x) (he : ∀ n it, P n → L[n]? = some it → L'[n]? = some it) : Side L' (fun n => P n ∧ n < L.length) v x := by
  rcases h with h | ⟨i, j, hi, hj, p, r, A, h1, h2, h3, h4, h5⟩
  · exact .inl h
  · exact .inr ⟨i, j, ⟨hi, (List.getElem?_eq_some_iff.1 h4).1⟩, ⟨hj, (List.getElem?_eq_some_iff.1 h5).1⟩, p, r, A, h1, h2, h3, he i _ hi h4, he j _ hj h5⟩
theorem Two.pick {L : List Item} {va vx vb vy : Value} (h : Two L va vx vb vy) : Nil2 va vx ∨ ∃ p r A i j, va = .pointer (some ⟨p, 0, none⟩) ∧ vx = .pointer (some ⟨r, 0, none⟩) ∧ i ≠ j ∧ L[i]? = some (.disk p A) ∧ L[j]? = some (.ref r A) ∧
    (∀ X, Two ((L.set i (.disk p X)).set j (.ref r X)) va vx vb vy) ∧ (∀ X pc, Two (L.set i (.disk p X) ++ [.disk pc A]) (.pointer (some ⟨pc, 0, none⟩)) vx vb vy) := by
  obtain ⟨P1, P2, hd, h1, h2⟩ := h
  rcases h1 with h1 | ⟨i, j, hi, hj, p, r, A, e1, e2, hij, g1, g2⟩
  · exact .inl h1
  · refine .inr ⟨p, r, A, i, j, e1, e2, hij, g1, g2, fun X => ?_, fun X pc => ?_⟩
    · refine ⟨P1, fun n => P2 n ∧ n < L.length, fun n a b => hd n a b.1, .inr ⟨i, j, hi, hj, p, r, X, e1, e2, hij, get_set_ne (get_set g1 _) (fun e => hij e.symm), get_set (get_set_ne g2 hij) _⟩, h2.keep (fun n it hn hg => ?_)⟩
      exact get_set_ne (get_set_ne hg (fun e => hd i hi (by rw [e]; exact hn))) (fun e => hd j hj (by rw [e]; exact hn))
    · have hl := (List.getElem?_eq_some_iff.1 g2).1
      refine ⟨fun n => n = L.length ∨ n = j, fun n => P2 n ∧ n < L.length, fun n a b => ?_, .inr ⟨L.length, j, .inl rfl, .inr rfl, pc, r, A, rfl, e2, by omega, ?_, get_push (get_set_ne g2 hij)⟩, h2.keep (fun n it hn hg => get_push (get_set_ne hg (fun e => hd i hi (by rw [e]; exact hn))))⟩
      · rcases a with a | a
        · omega
        · exact hd n (by rw [a]; exact hj) b.1
      · have := get_last (L.set i (.disk p X)) (Item.disk pc A)
        rw [List.length_set] at this
        exact this
theorem n_good {B : Nat} {w : World} {L : List Item} (h : Lies B w L) (cap : Int) (h0 : 0 ≤ cap) (h1 : cap ≤ 16777216) : Calls Tryz.prog 4 #[.int .i64 cap] w fun e w' => ∃ p, e = .returned (.tuple #[.pointer (some ⟨p, 0, none⟩), .int .i64 0]) ∧ Lies B w' (L ++ [.disk p (AD.fresh cap)]) ∧ Below B w w' := by
  refine (new_good w cap h0 h1).mono ?_
  rintro e w' ⟨rfl, hd, hb⟩
  refine ⟨_, rfl, h.push (S' := foot (w.heap.size + 1) w.heap.size (fun _ => FC.void) (AD.fresh cap).fs) hb ⟨w.heap.size, _, hd, fun _ => Iff.rfl⟩ ?_, hb.mono h.base⟩
  rintro b (rfl | rfl | ⟨k, F, hk, _⟩)
  · exact Nat.le_succ _
  · exact Nat.le_refl _
  · simp [AD.fresh, fget] at hk
theorem rn_good {B : Nat} {w : World} {L : List Item} (h : Lies B w L) (cap : Int) (h0 : 0 ≤ cap) (h1 : cap ≤ 16777216) : Calls Tryz.prog 5 #[.int .i64 cap] w fun e w' => ∃ r, e = .returned (.tuple #[.pointer (some ⟨r, 0, none⟩), .int .i64 0]) ∧ Lies B w' (L ++ [.ref r (AD.fresh cap)]) ∧ Below B w w' := by
  refine (rNew_good w cap h0 h1).mono ?_
  rintro e w' ⟨rfl, ⟨s, hr, hrel⟩, hb⟩
  exact ⟨_, rfl, h.push (it := .ref w.heap.size (AD.fresh cap)) (S' := fun b => b = w.heap.size) hb ⟨s, [], hr, hrel⟩ (fun b hb' => by rw [hb']; exact Nat.le_refl _), hb.mono h.base⟩
set_option maxRecDepth 5000 in
set_option maxHeartbeats 40000000 in
theorem plays_walk (w : World) (one : Int) (hone : -9223372036854775808 ≤ one ∧ one < 9223372036854775808) (two : Int) (htwo : -9223372036854775808 ≤ two ∧ two < 9223372036854775808) (ad : Option Addr) (cap : Nat) (os : List OP) (h : Script w.heap.size w ad os) (hsm : ∀ o ∈ os, (o.fates.length + 1) * 48 ≤ 140737488355328) :
    Calls Tryz.prog 3 #[.int .i64 one, .int .i64 two, .slice ad os.length cap] w fun e w' => e = .returned (.bool true) ∧ Below w.heap.size w w' := by
  have hlen := h.len
  unfold maxLen at hlen
  have HS := hide h
  have HSM := hide hsm
  obtain ⟨B, hB⟩ : ∃ B, w.heap.size = B := ⟨_, rfl⟩
  have HBE := hide hB
  rw [hB] at HS ⊢
  clear h hsm hB hone htwo
  by_cases oneb : one < 0 ∨ 16777216 < one
  · by_cases twob : two < 0 ∨ 16777216 < two
    · have hl0 : Lies B w [] := Lies.nil (by rw [HBE.out]; exact Nat.le_refl _)
      have HB0 : Hid (Below B w w) := Below.refl _ _
      have H0 := hide hl0
      clear hl0
      have hc1 := new_bad w one oneb
      go_enter Tryz.func3, Tryz.ntmps3
      go_wp2_with fail
      refine hc1.mono ?_
      rintro e w1 ⟨rfl, hw⟩
      obtain rfl := hw.symm
      have H1 := H0
      have HB1 := HB0
      clear hw hc1 H0 HB0
      have hc2 := rNew_bad w one oneb
      go_wp2_with fail
      refine hc2.mono ?_
      rintro e w2 ⟨rfl, hw⟩
      obtain rfl := hw.symm
      have H2 := H1
      have HB2 := HB1
      clear hw hc2 H1 HB1
      have hc3 := new_bad w two twob
      go_wp2_with fail
      refine hc3.mono ?_
      rintro e w3 ⟨rfl, hw⟩
      obtain rfl := hw.symm
      have H3 := H2
      have HB3 := HB2
      clear hw hc3 H2 HB2
      have hc4 := rNew_bad w two twob
      go_wp2_with fail
      refine hc4.mono ?_
      rintro e w4 ⟨rfl, hw⟩
      obtain rfl := hw.symm
      have H4 := H3
      have HB4 := HB3
      clear hw hc4 H3 HB3
      go_wp2_with fail
      refine (first_any w).mono ?_
      rintro e w5 ⟨rfl, hb⟩
      have H5 := hide (H4.out.below hb)
      have HB5 := hide (HB4.out.trans (hb.mono H4.out.base))
      clear hb H4 HB4
      obtain ⟨VX, hVX⟩ : ∃ v : Value, v = .pointer none := ⟨_, rfl⟩
      obtain ⟨VY, hVY⟩ : ∃ v : Value, v = .pointer none := ⟨_, rfl⟩
      have HVX := hide hVX
      have HVY := hide hVY
      clear hVX hVY
      have HT : Hid (Two [] (.pointer none) VX (.pointer none) VY) := ⟨fun n => n < 2, fun n => 2 ≤ n, fun n a b => by omega, .inl ⟨rfl, HVX.out⟩, .inl ⟨rfl, HVY.out⟩⟩
      go_wp2
      go_loopw [7, 11, 15] (fun va vb i wr => ∃ (k : Nat) (M : List Item) (a b : Value), a = va ∧ b = vb ∧ k ≤ os.length ∧ i = .int .i64 (k : Int) ∧ Two M a VX b VY ∧ Lies B wr M ∧ Below B w wr) (fun _ _ i _ => os.length - (intOf i).toNat)
      case atStart => exact ⟨0, _, _, _, rfl, rfl, by omega, rfl, HT.out, H5.out, HB5.out⟩
      case round =>
        clear H5 HB5 HT
        obtain ⟨k, M, va, vb, rfl, rfl, hk, rfl, htw, hlr, hbr⟩ := hrel
        by_cases hlt : k < os.length
        · have dk : decide ((k : Int) < (os.length : Int)) = true := decide_eq_true (by omega)
          have hk0 : (0 : Int) ≤ (k : Int) := by omega
          have hk1 : (k : Int) < (os.length : Int) := by omega
          have hsr := HS.out.below hbr
          obtain ⟨b, o, rfl, hcs⟩ := hsr.cells hlt
          obtain ⟨x, hx⟩ : ∃ x, os[k] = x := ⟨_, rfl⟩
          rw [hx] at hcs
          have hxm : x ∈ os := by rw [← hx]; exact List.getElem_mem hlt
          have HXO := hide (hsr.ok x hxm)
          have HXS := hide (HSM.out x hxm)
          have s0 : wr.cell? ⟨b, o + k * 8, none⟩ = some (.int .i64 x.kind) := hcs 0 (by omega)
          have s1 : wr.cell? ⟨b, o + k * 8 + 1, none⟩ = some (.bool x.two) := hcs 1 (by omega)
          have s2 : wr.cell? ⟨b, o + k * 8 + 2, none⟩ = some (.string x.name) := hcs 2 (by omega)
          have s3 : wr.cell? ⟨b, o + k * 8 + 3, none⟩ = some (.string x.to) := hcs 3 (by omega)
          have s4 : wr.cell? ⟨b, o + k * 8 + 4, none⟩ = some (.int .i64 x.at_) := hcs 4 (by omega)
          have s5 : wr.cell? ⟨b, o + k * 8 + 5, none⟩ = some (.int .i64 x.n) := hcs 5 (by omega)
          have s6 : wr.cell? ⟨b, o + k * 8 + 6, none⟩ = some (.string x.text) := hcs 6 (by omega)
          have s7 : wr.cell? ⟨b, o + k * 8 + 7, none⟩ = some (.slice x.ad x.fates.length x.cap) := hcs 7 (by omega)
          obtain ⟨g, hg⟩ : ∃ g, wr.heap.size = g := ⟨_, rfl⟩
          obtain ⟨w1, hw1⟩ : ∃ w1, wr.alloc (.cells x.cs 33) = w1 := ⟨_, rfl⟩
          have hb1 : Below wr.heap.size wr w1 := by rw [← hw1]; exact (Below.refl _ _).alloc (Nat.le_refl _) _
          have hk1' : w1.heap[g]? = some (.cells x.cs 33 (0, 0)) := by rw [← hw1, ← hg]; exact heap_alloc_new wr _
          have hl1 : Lies B w1 (M ++ [Item.block g (.cells x.cs 33 (0, 0))]) := hlr.push (S' := fun b => b = g) hb1 ⟨hk1', fun _ => Iff.rfl⟩ (fun b hb => by rw [hb, hg]; exact Nat.le_refl _)
          have hB1 := hbr.trans (hb1.mono hlr.base)
          have HXL := hide ((hsr.lie x hxm).below (hb1.mono hlr.base))
          have HL1 := hide hl1
          have HB1 := hide hB1
          have HQ : Hid ((M ++ [Item.block g (.cells x.cs 33 (0, 0))])[M.length]? = some (Item.block g (.cells x.cs 33 (0, 0)))) := get_last _ _
          have HTW := hide htw
          have o0 : w1.cell? ⟨g, 0, none⟩ = some (.int .i64 x.kind) := op_cells HL1.out HQ.out 0
          have o2 : w1.cell? ⟨g, 2, none⟩ = some (.string x.name) := op_cells HL1.out HQ.out 2
          have o3 : w1.cell? ⟨g, 3, none⟩ = some (.string x.to) := op_cells HL1.out HQ.out 3
          have o4 : w1.cell? ⟨g, 4, none⟩ = some (.int .i64 x.at_) := op_cells HL1.out HQ.out 4
          have o5 : w1.cell? ⟨g, 5, none⟩ = some (.int .i64 x.n) := op_cells HL1.out HQ.out 5
          have o6 : w1.cell? ⟨g, 6, none⟩ = some (.string x.text) := op_cells HL1.out HQ.out 6
          have o7 : w1.cell? ⟨g, 7, none⟩ = some (.slice x.ad x.fates.length x.cap) := op_cells HL1.out HQ.out 7
          obtain ⟨xt, hxt⟩ : ∃ t, x.two = t := ⟨_, rfl⟩
          have o1 : w1.cell? ⟨g, 1, none⟩ = some (.bool xt) := by rw [← hxt]; exact op_cells HL1.out HQ.out 1
          have HXT := hide hxt
          rw [hxt] at s1
          have hw1' : wr.alloc (.cells #[.int .i64 x.kind, .bool xt, .string x.name, .string x.to, .int .i64 x.at_, .int .i64 x.n, .string x.text, .slice x.ad x.fates.length x.cap] 33) = w1 := by rw [← hxt]; exact hw1
          have hcsx : x.cs = #[.int .i64 x.kind, .bool xt, .string x.name, .string x.to, .int .i64 x.at_, .int .i64 x.n, .string x.text, .slice x.ad x.fates.length x.cap] := by rw [← hxt]; rfl
          have HCX := hide hcsx
          clear hlr hbr hsr hcs hx hxm hb1 hk1' hl1 hB1 htw hw1 hxt hcsx
          cases xt with
          | false =>
            rcases HTW.out.pick with ⟨ea, ex⟩ | ⟨p, r, A, i, j, ea, ex, hij, gi, gj, hset, hcop⟩
            · have HEA := hide ea
              have HTW2 := HTW
              rw [ea] at HTW2
              subst ea
              go_wp2
              go_roundw
              case rel => exact ⟨k + 1, M, _, _, rfl, rfl, by omega, by go_num, HTW.out, HL1.out.drop, HB1.out⟩
              case measure => simp [intOf]; omega
            · rw [HVX.out] at ex; cases ex
          | true =>
            rcases HTW.out.swap.pick with ⟨ea, ex⟩ | ⟨p, r, A, i, j, ea, ex, hij, gi, gj, hset, hcop⟩
            · have HEA := hide ea
              have HTW2 := HTW
              rw [ea] at HTW2
              subst ea
              go_wp2
              go_roundw
              case rel => exact ⟨k + 1, M, _, _, rfl, rfl, by omega, by go_num, HTW.out, HL1.out.drop, HB1.out⟩
              case measure => simp [intOf]; omega
            · rw [HVY.out] at ex; cases ex
        · have hkl : k = os.length := by omega
          subst hkl
          have dk : decide ((os.length : Int) < (os.length : Int)) = false := decide_eq_false (by omega)
          have HBR := hide hbr
          clear hlr hbr htw
          go_wp2
          go_ret
          exact ⟨rfl, HBR.out⟩
    · have two0 : 0 ≤ two := by omega
      have two1 : two ≤ 16777216 := by omega
      have hl0 : Lies B w [] := Lies.nil (by rw [HBE.out]; exact Nat.le_refl _)
      have HB0 : Hid (Below B w w) := Below.refl _ _
      have H0 := hide hl0
      clear hl0
      have hc1 := new_bad w one oneb
      go_enter Tryz.func3, Tryz.ntmps3
      go_wp2_with fail
      refine hc1.mono ?_
      rintro e w1 ⟨rfl, hw⟩
      obtain rfl := hw.symm
      have H1 := H0
      have HB1 := HB0
      clear hw hc1 H0 HB0
      have hc2 := rNew_bad w one oneb
      go_wp2_with fail
      refine hc2.mono ?_
      rintro e w2 ⟨rfl, hw⟩
      obtain rfl := hw.symm
      have H2 := H1
      have HB2 := HB1
      clear hw hc2 H1 HB1
      have hc3 := n_good H2.out two two0 two1
      go_wp2_with fail
      refine hc3.mono ?_
      rintro e w3 ⟨q3, rfl, h, hb⟩
      have H3 := hide h
      have HB3 := hide (HB2.out.trans hb)
      clear h hb hc3 H2 HB2
      have hc4 := rn_good H3.out two two0 two1
      go_wp2_with fail
      refine hc4.mono ?_
      rintro e w4 ⟨q4, rfl, h, hb⟩
      have H4 := hide h
      have HB4 := hide (HB3.out.trans hb)
      clear h hb hc4 H3 HB3
      go_wp2_with fail
      refine (first_any w4).mono ?_
      rintro e w5 ⟨rfl, hb⟩
      have H5 := hide (H4.out.below hb)
      have HB5 := hide (HB4.out.trans (hb.mono H4.out.base))
      clear hb H4 HB4
      obtain ⟨VX, hVX⟩ : ∃ v : Value, v = .pointer none := ⟨_, rfl⟩
      obtain ⟨VY, hVY⟩ : ∃ v : Value, v = .pointer (some ⟨q4, 0, none⟩) := ⟨_, rfl⟩
      have HVX := hide hVX
      have HVY := hide hVY
      clear hVX hVY
      have HT : Hid (Two [.disk q3 (AD.fresh two), .ref q4 (AD.fresh two)] (.pointer none) VX (.pointer (some ⟨q3, 0, none⟩)) VY) := ⟨fun n => 2 ≤ n, fun n => n < 2, fun n a b => by omega, .inl ⟨rfl, HVX.out⟩, .inr ⟨0, 1, by decide, by decide, _, _, _, rfl, HVY.out, by decide, rfl, rfl⟩⟩
      go_wp2
      go_loopw [7, 11, 15] (fun va vb i wr => ∃ (k : Nat) (M : List Item) (a b : Value), a = va ∧ b = vb ∧ k ≤ os.length ∧ i = .int .i64 (k : Int) ∧ Two M a VX b VY ∧ Lies B wr M ∧ Below B w wr) (fun _ _ i _ => os.length - (intOf i).toNat)
      case atStart => exact ⟨0, _, _, _, rfl, rfl, by omega, rfl, HT.out, H5.out, HB5.out⟩
      case round =>
        clear H5 HB5 HT
        obtain ⟨k, M, va, vb, rfl, rfl, hk, rfl, htw, hlr, hbr⟩ := hrel
        by_cases hlt : k < os.length
        · have dk : decide ((k : Int) < (os.length : Int)) = true := decide_eq_true (by omega)
          have hk0 : (0 : Int) ≤ (k : Int) := by omega
          have hk1 : (k : Int) < (os.length : Int) := by omega
          have hsr := HS.out.below hbr
          obtain ⟨b, o, rfl, hcs⟩ := hsr.cells hlt
          obtain ⟨x, hx⟩ : ∃ x, os[k] = x := ⟨_, rfl⟩
          rw [hx] at hcs
          have hxm : x ∈ os := by rw [← hx]; exact List.getElem_mem hlt
          have HXO := hide (hsr.ok x hxm)
          have HXS := hide (HSM.out x hxm)
          have s0 : wr.cell? ⟨b, o + k * 8, none⟩ = some (.int .i64 x.kind) := hcs 0 (by omega)
          have s1 : wr.cell? ⟨b, o + k * 8 + 1, none⟩ = some (.bool x.two) := hcs 1 (by omega)
          have s2 : wr.cell? ⟨b, o + k * 8 + 2, none⟩ = some (.string x.name) := hcs 2 (by omega)
          have s3 : wr.cell? ⟨b, o + k * 8 + 3, none⟩ = some (.string x.to) := hcs 3 (by omega)
          have s4 : wr.cell? ⟨b, o + k * 8 + 4, none⟩ = some (.int .i64 x.at_) := hcs 4 (by omega)
          have s5 : wr.cell? ⟨b, o + k * 8 + 5, none⟩ = some (.int .i64 x.n) := hcs 5 (by omega)
          have s6 : wr.cell? ⟨b, o + k * 8 + 6, none⟩ = some (.string x.text) := hcs 6 (by omega)
          have s7 : wr.cell? ⟨b, o + k * 8 + 7, none⟩ = some (.slice x.ad x.fates.length x.cap) := hcs 7 (by omega)
          obtain ⟨g, hg⟩ : ∃ g, wr.heap.size = g := ⟨_, rfl⟩
          obtain ⟨w1, hw1⟩ : ∃ w1, wr.alloc (.cells x.cs 33) = w1 := ⟨_, rfl⟩
          have hb1 : Below wr.heap.size wr w1 := by rw [← hw1]; exact (Below.refl _ _).alloc (Nat.le_refl _) _
          have hk1' : w1.heap[g]? = some (.cells x.cs 33 (0, 0)) := by rw [← hw1, ← hg]; exact heap_alloc_new wr _
          have hl1 : Lies B w1 (M ++ [Item.block g (.cells x.cs 33 (0, 0))]) := hlr.push (S' := fun b => b = g) hb1 ⟨hk1', fun _ => Iff.rfl⟩ (fun b hb => by rw [hb, hg]; exact Nat.le_refl _)
          have hB1 := hbr.trans (hb1.mono hlr.base)
          have HXL := hide ((hsr.lie x hxm).below (hb1.mono hlr.base))
          have HL1 := hide hl1
          have HB1 := hide hB1
          have HQ : Hid ((M ++ [Item.block g (.cells x.cs 33 (0, 0))])[M.length]? = some (Item.block g (.cells x.cs 33 (0, 0)))) := get_last _ _
          have HTW := hide htw
          have o0 : w1.cell? ⟨g, 0, none⟩ = some (.int .i64 x.kind) := op_cells HL1.out HQ.out 0
          have o2 : w1.cell? ⟨g, 2, none⟩ = some (.string x.name) := op_cells HL1.out HQ.out 2
          have o3 : w1.cell? ⟨g, 3, none⟩ = some (.string x.to) := op_cells HL1.out HQ.out 3
          have o4 : w1.cell? ⟨g, 4, none⟩ = some (.int .i64 x.at_) := op_cells HL1.out HQ.out 4
          have o5 : w1.cell? ⟨g, 5, none⟩ = some (.int .i64 x.n) := op_cells HL1.out HQ.out 5
          have o6 : w1.cell? ⟨g, 6, none⟩ = some (.string x.text) := op_cells HL1.out HQ.out 6
          have o7 : w1.cell? ⟨g, 7, none⟩ = some (.slice x.ad x.fates.length x.cap) := op_cells HL1.out HQ.out 7
          obtain ⟨xt, hxt⟩ : ∃ t, x.two = t := ⟨_, rfl⟩
          have o1 : w1.cell? ⟨g, 1, none⟩ = some (.bool xt) := by rw [← hxt]; exact op_cells HL1.out HQ.out 1
          have HXT := hide hxt
          rw [hxt] at s1
          have hw1' : wr.alloc (.cells #[.int .i64 x.kind, .bool xt, .string x.name, .string x.to, .int .i64 x.at_, .int .i64 x.n, .string x.text, .slice x.ad x.fates.length x.cap] 33) = w1 := by rw [← hxt]; exact hw1
          have hcsx : x.cs = #[.int .i64 x.kind, .bool xt, .string x.name, .string x.to, .int .i64 x.at_, .int .i64 x.n, .string x.text, .slice x.ad x.fates.length x.cap] := by rw [← hxt]; rfl
          have HCX := hide hcsx
          clear hlr hbr hsr hcs hx hxm hb1 hk1' hl1 hB1 htw hw1 hxt hcsx
          cases xt with
          | false =>
            rcases HTW.out.pick with ⟨ea, ex⟩ | ⟨p, r, A, i, j, ea, ex, hij, gi, gj, hset, hcop⟩
            · have HEA := hide ea
              have HTW2 := HTW
              rw [ea] at HTW2
              subst ea
              go_wp2
              go_roundw
              case rel => exact ⟨k + 1, M, _, _, rfl, rfl, by omega, by go_num, HTW.out, HL1.out.drop, HB1.out⟩
              case measure => simp [intOf]; omega
            · rw [HVX.out] at ex; cases ex
          | true =>
            rcases HTW.out.swap.pick with ⟨ea, ex⟩ | ⟨p, r, A, i, j, ea, ex, hij, gi, gj, hset, hcop⟩
            · rw [HVY.out] at ex; cases ex
            · subst ea
              rw [HVY.out] at ex
              simp only [Value.pointer.injEq, Option.some.injEq, Addr.mk.injEq, and_true] at ex
              subst ex
              have HSET := hide hset
              have HCOP := hide hcop
              have HGI := hide gi
              have HGJ := hide gj
              have HIJ := hide hij
              by_cases hk10 : x.kind = 10
              · have d10 : (x.kind == 10) = true := beq_iff_eq.2 hk10
                have hc := copied_any HL1.out (get_push gi) (get_push gj) hij x HXO.out
                rw [HCX.out] at hc
                clear hk10 hset hcop gi gj hij
                go_wp2_with fail
                refine hc.mono ?_
                rintro e w9 ⟨pc, A9, rfl, h, hb⟩
                have HB9 := hide (HB1.out.trans hb)
                rw [set_push HGI.out] at h
                have t1 : w9.cell? ⟨g, 1, none⟩ = some (.bool true) := by
                  have hq := get_push (M := [Item.disk pc A]) (get_last (M.set i (Item.disk p A9)) (Item.block g (.cells x.cs 33 (0, 0))))
                  rw [HCX.out] at hq
                  rw [cell_of_row w9 g 1 _ _ (0, 0) (h.blockOf hq)]
                  rfl
                have H9 := hide h.unmid
                clear h hb hc
                go_wp2
                go_roundw
                case rel => exact ⟨k + 1, _, _, _, rfl, rfl, by omega, by go_num, (HCOP.out A9 pc).swap, H9.out, HB9.out⟩
                case measure => simp [intOf]; omega
              · have d10 : (x.kind == 10) = false := beq_eq_false_iff_ne.2 hk10
                have hc := plays_any HL1.out (get_push gi) (get_push gj) hij x HXO.out HXL.out HXS.out
                rw [HCX.out] at hc
                clear hk10 hset hcop gi gj hij
                go_wp2_with fail
                refine hc.mono ?_
                rintro e w9 ⟨rfl, h, hb⟩
                have HB9 := hide (HB1.out.trans hb)
                rw [set_push HGI.out, set_push (get_set_ne HGJ.out HIJ.out)] at h
                have H9 := hide h.drop
                clear h hb hc
                go_wp2
                go_roundw
                case rel => exact ⟨k + 1, _, _, _, rfl, rfl, by omega, by go_num, (HSET.out _).swap, H9.out, HB9.out⟩
                case measure => simp [intOf]; omega
        · have hkl : k = os.length := by omega
          subst hkl
          have dk : decide ((os.length : Int) < (os.length : Int)) = false := decide_eq_false (by omega)
          have HBR := hide hbr
          clear hlr hbr htw
          go_wp2
          go_ret
          exact ⟨rfl, HBR.out⟩
  · have one0 : 0 ≤ one := by omega
    have one1 : one ≤ 16777216 := by omega
    by_cases twob : two < 0 ∨ 16777216 < two
    · have hl0 : Lies B w [] := Lies.nil (by rw [HBE.out]; exact Nat.le_refl _)
      have HB0 : Hid (Below B w w) := Below.refl _ _
      have H0 := hide hl0
      clear hl0
      have hc1 := n_good H0.out one one0 one1
      go_enter Tryz.func3, Tryz.ntmps3
      go_wp2_with fail
      refine hc1.mono ?_
      rintro e w1 ⟨q1, rfl, h, hb⟩
      have H1 := hide h
      have HB1 := hide (HB0.out.trans hb)
      clear h hb hc1 H0 HB0
      have hc2 := rn_good H1.out one one0 one1
      go_wp2_with fail
      refine hc2.mono ?_
      rintro e w2 ⟨q2, rfl, h, hb⟩
      have H2 := hide h
      have HB2 := hide (HB1.out.trans hb)
      clear h hb hc2 H1 HB1
      have hc3 := new_bad w2 two twob
      go_wp2_with fail
      refine hc3.mono ?_
      rintro e w3 ⟨rfl, hw⟩
      obtain rfl := hw.symm
      have H3 := H2
      have HB3 := HB2
      clear hw hc3 H2 HB2
      have hc4 := rNew_bad w2 two twob
      go_wp2_with fail
      refine hc4.mono ?_
      rintro e w4 ⟨rfl, hw⟩
      obtain rfl := hw.symm
      have H4 := H3
      have HB4 := HB3
      clear hw hc4 H3 HB3
      go_wp2_with fail
      refine (first_any w2).mono ?_
      rintro e w5 ⟨rfl, hb⟩
      have H5 := hide (H4.out.below hb)
      have HB5 := hide (HB4.out.trans (hb.mono H4.out.base))
      clear hb H4 HB4
      obtain ⟨VX, hVX⟩ : ∃ v : Value, v = .pointer (some ⟨q2, 0, none⟩) := ⟨_, rfl⟩
      obtain ⟨VY, hVY⟩ : ∃ v : Value, v = .pointer none := ⟨_, rfl⟩
      have HVX := hide hVX
      have HVY := hide hVY
      clear hVX hVY
      have HT : Hid (Two [.disk q1 (AD.fresh one), .ref q2 (AD.fresh one)] (.pointer (some ⟨q1, 0, none⟩)) VX (.pointer none) VY) := ⟨fun n => n < 2, fun n => 2 ≤ n, fun n a b => by omega, .inr ⟨0, 1, by decide, by decide, _, _, _, rfl, HVX.out, by decide, rfl, rfl⟩, .inl ⟨rfl, HVY.out⟩⟩
      go_wp2
      go_loopw [7, 11, 15] (fun va vb i wr => ∃ (k : Nat) (M : List Item) (a b : Value), a = va ∧ b = vb ∧ k ≤ os.length ∧ i = .int .i64 (k : Int) ∧ Two M a VX b VY ∧ Lies B wr M ∧ Below B w wr) (fun _ _ i _ => os.length - (intOf i).toNat)
      case atStart => exact ⟨0, _, _, _, rfl, rfl, by omega, rfl, HT.out, H5.out, HB5.out⟩
      case round =>
        clear H5 HB5 HT
        obtain ⟨k, M, va, vb, rfl, rfl, hk, rfl, htw, hlr, hbr⟩ := hrel
        by_cases hlt : k < os.length
        · have dk : decide ((k : Int) < (os.length : Int)) = true := decide_eq_true (by omega)
          have hk0 : (0 : Int) ≤ (k : Int) := by omega
          have hk1 : (k : Int) < (os.length : Int) := by omega
          have hsr := HS.out.below hbr
          obtain ⟨b, o, rfl, hcs⟩ := hsr.cells hlt
          obtain ⟨x, hx⟩ : ∃ x, os[k] = x := ⟨_, rfl⟩
          rw [hx] at hcs
          have hxm : x ∈ os := by rw [← hx]; exact List.getElem_mem hlt
          have HXO := hide (hsr.ok x hxm)
          have HXS := hide (HSM.out x hxm)
          have s0 : wr.cell? ⟨b, o + k * 8, none⟩ = some (.int .i64 x.kind) := hcs 0 (by omega)
          have s1 : wr.cell? ⟨b, o + k * 8 + 1, none⟩ = some (.bool x.two) := hcs 1 (by omega)
          have s2 : wr.cell? ⟨b, o + k * 8 + 2, none⟩ = some (.string x.name) := hcs 2 (by omega)
          have s3 : wr.cell? ⟨b, o + k * 8 + 3, none⟩ = some (.string x.to) := hcs 3 (by omega)
          have s4 : wr.cell? ⟨b, o + k * 8 + 4, none⟩ = some (.int .i64 x.at_) := hcs 4 (by omega)
          have s5 : wr.cell? ⟨b, o + k * 8 + 5, none⟩ = some (.int .i64 x.n) := hcs 5 (by omega)
          have s6 : wr.cell? ⟨b, o + k * 8 + 6, none⟩ = some (.string x.text) := hcs 6 (by omega)
          have s7 : wr.cell? ⟨b, o + k * 8 + 7, none⟩ = some (.slice x.ad x.fates.length x.cap) := hcs 7 (by omega)
          obtain ⟨g, hg⟩ : ∃ g, wr.heap.size = g := ⟨_, rfl⟩
          obtain ⟨w1, hw1⟩ : ∃ w1, wr.alloc (.cells x.cs 33) = w1 := ⟨_, rfl⟩
          have hb1 : Below wr.heap.size wr w1 := by rw [← hw1]; exact (Below.refl _ _).alloc (Nat.le_refl _) _
          have hk1' : w1.heap[g]? = some (.cells x.cs 33 (0, 0)) := by rw [← hw1, ← hg]; exact heap_alloc_new wr _
          have hl1 : Lies B w1 (M ++ [Item.block g (.cells x.cs 33 (0, 0))]) := hlr.push (S' := fun b => b = g) hb1 ⟨hk1', fun _ => Iff.rfl⟩ (fun b hb => by rw [hb, hg]; exact Nat.le_refl _)
          have hB1 := hbr.trans (hb1.mono hlr.base)
          have HXL := hide ((hsr.lie x hxm).below (hb1.mono hlr.base))
          have HL1 := hide hl1
          have HB1 := hide hB1
          have HQ : Hid ((M ++ [Item.block g (.cells x.cs 33 (0, 0))])[M.length]? = some (Item.block g (.cells x.cs 33 (0, 0)))) := get_last _ _
          have HTW := hide htw
          have o0 : w1.cell? ⟨g, 0, none⟩ = some (.int .i64 x.kind) := op_cells HL1.out HQ.out 0
          have o2 : w1.cell? ⟨g, 2, none⟩ = some (.string x.name) := op_cells HL1.out HQ.out 2
          have o3 : w1.cell? ⟨g, 3, none⟩ = some (.string x.to) := op_cells HL1.out HQ.out 3
          have o4 : w1.cell? ⟨g, 4, none⟩ = some (.int .i64 x.at_) := op_cells HL1.out HQ.out 4
          have o5 : w1.cell? ⟨g, 5, none⟩ = some (.int .i64 x.n) := op_cells HL1.out HQ.out 5
          have o6 : w1.cell? ⟨g, 6, none⟩ = some (.string x.text) := op_cells HL1.out HQ.out 6
          have o7 : w1.cell? ⟨g, 7, none⟩ = some (.slice x.ad x.fates.length x.cap) := op_cells HL1.out HQ.out 7
          obtain ⟨xt, hxt⟩ : ∃ t, x.two = t := ⟨_, rfl⟩
          have o1 : w1.cell? ⟨g, 1, none⟩ = some (.bool xt) := by rw [← hxt]; exact op_cells HL1.out HQ.out 1
          have HXT := hide hxt
          rw [hxt] at s1
          have hw1' : wr.alloc (.cells #[.int .i64 x.kind, .bool xt, .string x.name, .string x.to, .int .i64 x.at_, .int .i64 x.n, .string x.text, .slice x.ad x.fates.length x.cap] 33) = w1 := by rw [← hxt]; exact hw1
          have hcsx : x.cs = #[.int .i64 x.kind, .bool xt, .string x.name, .string x.to, .int .i64 x.at_, .int .i64 x.n, .string x.text, .slice x.ad x.fates.length x.cap] := by rw [← hxt]; rfl
          have HCX := hide hcsx
          clear hlr hbr hsr hcs hx hxm hb1 hk1' hl1 hB1 htw hw1 hxt hcsx
          cases xt with
          | false =>
            rcases HTW.out.pick with ⟨ea, ex⟩ | ⟨p, r, A, i, j, ea, ex, hij, gi, gj, hset, hcop⟩
            · rw [HVX.out] at ex; cases ex
            · subst ea
              rw [HVX.out] at ex
              simp only [Value.pointer.injEq, Option.some.injEq, Addr.mk.injEq, and_true] at ex
              subst ex
              have HSET := hide hset
              have HCOP := hide hcop
              have HGI := hide gi
              have HGJ := hide gj
              have HIJ := hide hij
              by_cases hk10 : x.kind = 10
              · have d10 : (x.kind == 10) = true := beq_iff_eq.2 hk10
                have hc := copied_any HL1.out (get_push gi) (get_push gj) hij x HXO.out
                rw [HCX.out] at hc
                clear hk10 hset hcop gi gj hij
                go_wp2_with fail
                refine hc.mono ?_
                rintro e w9 ⟨pc, A9, rfl, h, hb⟩
                have HB9 := hide (HB1.out.trans hb)
                rw [set_push HGI.out] at h
                have t1 : w9.cell? ⟨g, 1, none⟩ = some (.bool false) := by
                  have hq := get_push (M := [Item.disk pc A]) (get_last (M.set i (Item.disk p A9)) (Item.block g (.cells x.cs 33 (0, 0))))
                  rw [HCX.out] at hq
                  rw [cell_of_row w9 g 1 _ _ (0, 0) (h.blockOf hq)]
                  rfl
                have H9 := hide h.unmid
                clear h hb hc
                go_wp2
                go_roundw
                case rel => exact ⟨k + 1, _, _, _, rfl, rfl, by omega, by go_num, HCOP.out A9 pc, H9.out, HB9.out⟩
                case measure => simp [intOf]; omega
              · have d10 : (x.kind == 10) = false := beq_eq_false_iff_ne.2 hk10
                have hc := plays_any HL1.out (get_push gi) (get_push gj) hij x HXO.out HXL.out HXS.out
                rw [HCX.out] at hc
                clear hk10 hset hcop gi gj hij
                go_wp2_with fail
                refine hc.mono ?_
                rintro e w9 ⟨rfl, h, hb⟩
                have HB9 := hide (HB1.out.trans hb)
                rw [set_push HGI.out, set_push (get_set_ne HGJ.out HIJ.out)] at h
                have H9 := hide h.drop
                clear h hb hc
                go_wp2
                go_roundw
                case rel => exact ⟨k + 1, _, _, _, rfl, rfl, by omega, by go_num, HSET.out _, H9.out, HB9.out⟩
                case measure => simp [intOf]; omega
          | true =>
            rcases HTW.out.swap.pick with ⟨ea, ex⟩ | ⟨p, r, A, i, j, ea, ex, hij, gi, gj, hset, hcop⟩
            · have HEA := hide ea
              have HTW2 := HTW
              rw [ea] at HTW2
              subst ea
              go_wp2
              go_roundw
              case rel => exact ⟨k + 1, M, _, _, rfl, rfl, by omega, by go_num, HTW.out, HL1.out.drop, HB1.out⟩
              case measure => simp [intOf]; omega
            · rw [HVY.out] at ex; cases ex
        · have hkl : k = os.length := by omega
          subst hkl
          have dk : decide ((os.length : Int) < (os.length : Int)) = false := decide_eq_false (by omega)
          have HBR := hide hbr
          clear hlr hbr htw
          go_wp2
          go_ret
          exact ⟨rfl, HBR.out⟩
    · have two0 : 0 ≤ two := by omega
      have two1 : two ≤ 16777216 := by omega
      have hl0 : Lies B w [] := Lies.nil (by rw [HBE.out]; exact Nat.le_refl _)
      have HB0 : Hid (Below B w w) := Below.refl _ _
      have H0 := hide hl0
      clear hl0
      have hc1 := n_good H0.out one one0 one1
      go_enter Tryz.func3, Tryz.ntmps3
      go_wp2_with fail
      refine hc1.mono ?_
      rintro e w1 ⟨q1, rfl, h, hb⟩
      have H1 := hide h
      have HB1 := hide (HB0.out.trans hb)
      clear h hb hc1 H0 HB0
      have hc2 := rn_good H1.out one one0 one1
      go_wp2_with fail
      refine hc2.mono ?_
      rintro e w2 ⟨q2, rfl, h, hb⟩
      have H2 := hide h
      have HB2 := hide (HB1.out.trans hb)
      clear h hb hc2 H1 HB1
      have hc3 := n_good H2.out two two0 two1
      go_wp2_with fail
      refine hc3.mono ?_
      rintro e w3 ⟨q3, rfl, h, hb⟩
      have H3 := hide h
      have HB3 := hide (HB2.out.trans hb)
      clear h hb hc3 H2 HB2
      have hc4 := rn_good H3.out two two0 two1
      go_wp2_with fail
      refine hc4.mono ?_
      rintro e w4 ⟨q4, rfl, h, hb⟩
      have H4 := hide h
      have HB4 := hide (HB3.out.trans hb)
      clear h hb hc4 H3 HB3
      go_wp2_with fail
      refine (first_any w4).mono ?_
      rintro e w5 ⟨rfl, hb⟩
      have H5 := hide (H4.out.below hb)
      have HB5 := hide (HB4.out.trans (hb.mono H4.out.base))
      clear hb H4 HB4
      obtain ⟨VX, hVX⟩ : ∃ v : Value, v = .pointer (some ⟨q2, 0, none⟩) := ⟨_, rfl⟩
      obtain ⟨VY, hVY⟩ : ∃ v : Value, v = .pointer (some ⟨q4, 0, none⟩) := ⟨_, rfl⟩
      have HVX := hide hVX
      have HVY := hide hVY
      clear hVX hVY
      have HT : Hid (Two [.disk q1 (AD.fresh one), .ref q2 (AD.fresh one), .disk q3 (AD.fresh two), .ref q4 (AD.fresh two)] (.pointer (some ⟨q1, 0, none⟩)) VX (.pointer (some ⟨q3, 0, none⟩)) VY) := ⟨fun n => n < 2, fun n => 2 ≤ n, fun n a b => by omega, .inr ⟨0, 1, by decide, by decide, _, _, _, rfl, HVX.out, by decide, rfl, rfl⟩, .inr ⟨2, 3, by decide, by decide, _, _, _, rfl, HVY.out, by decide, rfl, rfl⟩⟩
      go_wp2
      go_loopw [7, 11, 15] (fun va vb i wr => ∃ (k : Nat) (M : List Item) (a b : Value), a = va ∧ b = vb ∧ k ≤ os.length ∧ i = .int .i64 (k : Int) ∧ Two M a VX b VY ∧ Lies B wr M ∧ Below B w wr) (fun _ _ i _ => os.length - (intOf i).toNat)
      case atStart => exact ⟨0, _, _, _, rfl, rfl, by omega, rfl, HT.out, H5.out, HB5.out⟩
      case round =>
        clear H5 HB5 HT
        obtain ⟨k, M, va, vb, rfl, rfl, hk, rfl, htw, hlr, hbr⟩ := hrel
        by_cases hlt : k < os.length
        · have dk : decide ((k : Int) < (os.length : Int)) = true := decide_eq_true (by omega)
          have hk0 : (0 : Int) ≤ (k : Int) := by omega
          have hk1 : (k : Int) < (os.length : Int) := by omega
          have hsr := HS.out.below hbr
          obtain ⟨b, o, rfl, hcs⟩ := hsr.cells hlt
          obtain ⟨x, hx⟩ : ∃ x, os[k] = x := ⟨_, rfl⟩
          rw [hx] at hcs
          have hxm : x ∈ os := by rw [← hx]; exact List.getElem_mem hlt
          have HXO := hide (hsr.ok x hxm)
          have HXS := hide (HSM.out x hxm)
          have s0 : wr.cell? ⟨b, o + k * 8, none⟩ = some (.int .i64 x.kind) := hcs 0 (by omega)
          have s1 : wr.cell? ⟨b, o + k * 8 + 1, none⟩ = some (.bool x.two) := hcs 1 (by omega)
          have s2 : wr.cell? ⟨b, o + k * 8 + 2, none⟩ = some (.string x.name) := hcs 2 (by omega)
          have s3 : wr.cell? ⟨b, o + k * 8 + 3, none⟩ = some (.string x.to) := hcs 3 (by omega)
          have s4 : wr.cell? ⟨b, o + k * 8 + 4, none⟩ = some (.int .i64 x.at_) := hcs 4 (by omega)
          have s5 : wr.cell? ⟨b, o + k * 8 + 5, none⟩ = some (.int .i64 x.n) := hcs 5 (by omega)
          have s6 : wr.cell? ⟨b, o + k * 8 + 6, none⟩ = some (.string x.text) := hcs 6 (by omega)
          have s7 : wr.cell? ⟨b, o + k * 8 + 7, none⟩ = some (.slice x.ad x.fates.length x.cap) := hcs 7 (by omega)
          obtain ⟨g, hg⟩ : ∃ g, wr.heap.size = g := ⟨_, rfl⟩
          obtain ⟨w1, hw1⟩ : ∃ w1, wr.alloc (.cells x.cs 33) = w1 := ⟨_, rfl⟩
          have hb1 : Below wr.heap.size wr w1 := by rw [← hw1]; exact (Below.refl _ _).alloc (Nat.le_refl _) _
          have hk1' : w1.heap[g]? = some (.cells x.cs 33 (0, 0)) := by rw [← hw1, ← hg]; exact heap_alloc_new wr _
          have hl1 : Lies B w1 (M ++ [Item.block g (.cells x.cs 33 (0, 0))]) := hlr.push (S' := fun b => b = g) hb1 ⟨hk1', fun _ => Iff.rfl⟩ (fun b hb => by rw [hb, hg]; exact Nat.le_refl _)
          have hB1 := hbr.trans (hb1.mono hlr.base)
          have HXL := hide ((hsr.lie x hxm).below (hb1.mono hlr.base))
          have HL1 := hide hl1
          have HB1 := hide hB1
          have HQ : Hid ((M ++ [Item.block g (.cells x.cs 33 (0, 0))])[M.length]? = some (Item.block g (.cells x.cs 33 (0, 0)))) := get_last _ _
          have HTW := hide htw
          have o0 : w1.cell? ⟨g, 0, none⟩ = some (.int .i64 x.kind) := op_cells HL1.out HQ.out 0
          have o2 : w1.cell? ⟨g, 2, none⟩ = some (.string x.name) := op_cells HL1.out HQ.out 2
          have o3 : w1.cell? ⟨g, 3, none⟩ = some (.string x.to) := op_cells HL1.out HQ.out 3
          have o4 : w1.cell? ⟨g, 4, none⟩ = some (.int .i64 x.at_) := op_cells HL1.out HQ.out 4
          have o5 : w1.cell? ⟨g, 5, none⟩ = some (.int .i64 x.n) := op_cells HL1.out HQ.out 5
          have o6 : w1.cell? ⟨g, 6, none⟩ = some (.string x.text) := op_cells HL1.out HQ.out 6
          have o7 : w1.cell? ⟨g, 7, none⟩ = some (.slice x.ad x.fates.length x.cap) := op_cells HL1.out HQ.out 7
          obtain ⟨xt, hxt⟩ : ∃ t, x.two = t := ⟨_, rfl⟩
          have o1 : w1.cell? ⟨g, 1, none⟩ = some (.bool xt) := by rw [← hxt]; exact op_cells HL1.out HQ.out 1
          have HXT := hide hxt
          rw [hxt] at s1
          have hw1' : wr.alloc (.cells #[.int .i64 x.kind, .bool xt, .string x.name, .string x.to, .int .i64 x.at_, .int .i64 x.n, .string x.text, .slice x.ad x.fates.length x.cap] 33) = w1 := by rw [← hxt]; exact hw1
          have hcsx : x.cs = #[.int .i64 x.kind, .bool xt, .string x.name, .string x.to, .int .i64 x.at_, .int .i64 x.n, .string x.text, .slice x.ad x.fates.length x.cap] := by rw [← hxt]; rfl
          have HCX := hide hcsx
          clear hlr hbr hsr hcs hx hxm hb1 hk1' hl1 hB1 htw hw1 hxt hcsx
          cases xt with
          | false =>
            rcases HTW.out.pick with ⟨ea, ex⟩ | ⟨p, r, A, i, j, ea, ex, hij, gi, gj, hset, hcop⟩
            · rw [HVX.out] at ex; cases ex
            · subst ea
              rw [HVX.out] at ex
              simp only [Value.pointer.injEq, Option.some.injEq, Addr.mk.injEq, and_true] at ex
              subst ex
              have HSET := hide hset
              have HCOP := hide hcop
              have HGI := hide gi
              have HGJ := hide gj
              have HIJ := hide hij
              by_cases hk10 : x.kind = 10
              · have d10 : (x.kind == 10) = true := beq_iff_eq.2 hk10
                have hc := copied_any HL1.out (get_push gi) (get_push gj) hij x HXO.out
                rw [HCX.out] at hc
                clear hk10 hset hcop gi gj hij
                go_wp2_with fail
                refine hc.mono ?_
                rintro e w9 ⟨pc, A9, rfl, h, hb⟩
                have HB9 := hide (HB1.out.trans hb)
                rw [set_push HGI.out] at h
                have t1 : w9.cell? ⟨g, 1, none⟩ = some (.bool false) := by
                  have hq := get_push (M := [Item.disk pc A]) (get_last (M.set i (Item.disk p A9)) (Item.block g (.cells x.cs 33 (0, 0))))
                  rw [HCX.out] at hq
                  rw [cell_of_row w9 g 1 _ _ (0, 0) (h.blockOf hq)]
                  rfl
                have H9 := hide h.unmid
                clear h hb hc
                go_wp2
                go_roundw
                case rel => exact ⟨k + 1, _, _, _, rfl, rfl, by omega, by go_num, HCOP.out A9 pc, H9.out, HB9.out⟩
                case measure => simp [intOf]; omega
              · have d10 : (x.kind == 10) = false := beq_eq_false_iff_ne.2 hk10
                have hc := plays_any HL1.out (get_push gi) (get_push gj) hij x HXO.out HXL.out HXS.out
                rw [HCX.out] at hc
                clear hk10 hset hcop gi gj hij
                go_wp2_with fail
                refine hc.mono ?_
                rintro e w9 ⟨rfl, h, hb⟩
                have HB9 := hide (HB1.out.trans hb)
                rw [set_push HGI.out, set_push (get_set_ne HGJ.out HIJ.out)] at h
                have H9 := hide h.drop
                clear h hb hc
                go_wp2
                go_roundw
                case rel => exact ⟨k + 1, _, _, _, rfl, rfl, by omega, by go_num, HSET.out _, H9.out, HB9.out⟩
                case measure => simp [intOf]; omega
          | true =>
            rcases HTW.out.swap.pick with ⟨ea, ex⟩ | ⟨p, r, A, i, j, ea, ex, hij, gi, gj, hset, hcop⟩
            · rw [HVY.out] at ex; cases ex
            · subst ea
              rw [HVY.out] at ex
              simp only [Value.pointer.injEq, Option.some.injEq, Addr.mk.injEq, and_true] at ex
              subst ex
              have HSET := hide hset
              have HCOP := hide hcop
              have HGI := hide gi
              have HGJ := hide gj
              have HIJ := hide hij
              by_cases hk10 : x.kind = 10
              · have d10 : (x.kind == 10) = true := beq_iff_eq.2 hk10
                have hc := copied_any HL1.out (get_push gi) (get_push gj) hij x HXO.out
                rw [HCX.out] at hc
                clear hk10 hset hcop gi gj hij
                go_wp2_with fail
                refine hc.mono ?_
                rintro e w9 ⟨pc, A9, rfl, h, hb⟩
                have HB9 := hide (HB1.out.trans hb)
                rw [set_push HGI.out] at h
                have t1 : w9.cell? ⟨g, 1, none⟩ = some (.bool true) := by
                  have hq := get_push (M := [Item.disk pc A]) (get_last (M.set i (Item.disk p A9)) (Item.block g (.cells x.cs 33 (0, 0))))
                  rw [HCX.out] at hq
                  rw [cell_of_row w9 g 1 _ _ (0, 0) (h.blockOf hq)]
                  rfl
                have H9 := hide h.unmid
                clear h hb hc
                go_wp2
                go_roundw
                case rel => exact ⟨k + 1, _, _, _, rfl, rfl, by omega, by go_num, (HCOP.out A9 pc).swap, H9.out, HB9.out⟩
                case measure => simp [intOf]; omega
              · have d10 : (x.kind == 10) = false := beq_eq_false_iff_ne.2 hk10
                have hc := plays_any HL1.out (get_push gi) (get_push gj) hij x HXO.out HXL.out HXS.out
                rw [HCX.out] at hc
                clear hk10 hset hcop gi gj hij
                go_wp2_with fail
                refine hc.mono ?_
                rintro e w9 ⟨rfl, h, hb⟩
                have HB9 := hide (HB1.out.trans hb)
                rw [set_push HGI.out, set_push (get_set_ne HGJ.out HIJ.out)] at h
                have H9 := hide h.drop
                clear h hb hc
                go_wp2
                go_roundw
                case rel => exact ⟨k + 1, _, _, _, rfl, rfl, by omega, by go_num, (HSET.out _).swap, H9.out, HB9.out⟩
                case measure => simp [intOf]; omega
        · have hkl : k = os.length := by omega
          subst hkl
          have dk : decide ((os.length : Int) < (os.length : Int)) = false := decide_eq_false (by omega)
          have HBR := hide hbr
          clear hlr hbr htw
          go_wp2
          go_ret
          exact ⟨rfl, HBR.out⟩
end Go.Proofs.YtcmhfpiglacdaaaGreat
