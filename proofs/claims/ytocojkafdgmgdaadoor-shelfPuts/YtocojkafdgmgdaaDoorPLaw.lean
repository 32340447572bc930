/-
  The statements' own helpers: same, lend, kept.
-/
import Derived.Test.YtocojkafdgmgdaaDoorPApp
import Derived.Test.YtocojkafdgmgdaaDoorPFirst
import Derived.BigQuiet
namespace Go.Proofs.YtocojkafdgmgdaaDoor
open Go.RowKit S
set_option linter.unusedVariables false
set_option linter.unusedSimpArgs false
set_option maxRecDepth 100000 in
set_option maxHeartbeats 1000000 in
theorem same_any (ad1 ad2 : Option Addr) (n c1 c2 : Nat) (l : List Slot) (hn : l.length = n) (hz : n * 48 ≤ 140737488351232) (w : World) (h1 : Slots w ad1 l) (h2 : Slots w ad2 l) : Calls Tryd.prog 18 #[.slice ad1 n c1, .slice ad2 n c2] w fun e w' => e = .returned (.bool true) ∧ Below w.heap.size w w' := by
  have hni : (n : Int) ≤ 140737488351232 := by omega
  have hd0 : ((n : Int) != (n : Int)) = false := by simp
  have hgs := guardS
  have HN := hide hn
  clear hn
  go_enter Tryd.func18, Tryd.ntmps18
  go_wp2
  go_loopw [5] (fun i wr => ∃ j : Nat, j ≤ n ∧ i = .int .i64 (j : Int) ∧ Below w.heap.size w wr) (fun i _ => n - (intOf i).toNat)
  case atStart => exact ⟨0, Nat.zero_le _, rfl, Below.refl _ _⟩
  case round =>
    obtain ⟨j, hj, rfl, hwk⟩ := hrel
    have h1' := h1.below hwk
    have h2' := h2.below hwk
    by_cases hlt : j < n
    · have hd : decide ((j : Int) < (n : Int)) = true := decide_eq_true (by omega)
      have hd2 : decide (j < n) = true := decide_eq_true hlt
      have hk0 : (0 : Int) ≤ (j : Int) := by omega
      have hk1 : (j : Int) < (n : Int) := by omega
      obtain ⟨s, hs⟩ : ∃ s, l[j]? = some s := ⟨_, List.getElem?_eq_getElem (by rw [HN.out]; exact hlt)⟩
      obtain ⟨b1, o1, rfl, hb1, hA1⟩ := h1'.get j s hs
      obtain ⟨b2, o2, rfl, hb2, hA2⟩ := h2'.get j s hs
      have hqs : ∀ w : World, (Op.equalIn 10000 37 (.agg (tabv s.v 34)) (.agg (tabv s.v 34))).run Tryd.prog w = .ok true w := fun w => by rw [eqSD, eqSl_refl]
      have HA1 := hide hA1
      have HA2 := hide hA2
      clear hA1 hA2 hb1 hb2 hs h1' h2'
      go_wp2
      refine wp_region_quiet_lit (by kernel_rfl) (by kernel_rfl) ?_
      iterate 3 (go_big_quiet_step (fail))
      go_big_quiet_want
      refine quiet_value (fun w' hw' => run_load_at w' 37 _ rfl b1 (o1 + j * 34) (by rfl) (s.v) 34 _ (by obtain ⟨m, rfl⟩ := hw'; exact HA1.out) Tryd.underlying37 rfl infoS) ?_
      simp only [Act.put, List.setIfInBounds_toArray, List.set_cons_succ, List.set_cons_zero]
      go_big_quiet_on
      iterate 3 (go_big_quiet_step (fail))
      go_big_quiet_want
      refine quiet_value (fun w' hw' => run_load_at w' 37 _ rfl b2 (o2 + j * 34) (by rfl) (s.v) 34 _ (by obtain ⟨m, rfl⟩ := hw'; exact HA2.out) Tryd.underlying37 rfl infoS) ?_
      simp only [Act.put, List.setIfInBounds_toArray, List.set_cons_succ, List.set_cons_zero]
      go_big_quiet_on
      iterate 1 (go_big_quiet_step (fail))
      refine wpQuiet_nil ?_
      intro _ hw'
      obtain ⟨nq, rfl⟩ := hw'
      go_wp2
      go_roundw
      case rel => exact ⟨j + 1, by omega, by go_num, belowD hwk nq⟩
      case measure => simp [intOf]; omega
    · have hjn : j = n := by omega
      subst hjn
      have hd : decide ((j : Int) < (j : Int)) = false := decide_eq_false (by omega)
      have hd2 : decide (j < j) = false := decide_eq_false (by omega)
      go_wp2
      go_ret
      exact ⟨by simp, hwk⟩
def mark : Slot := ⟨-7, fun _ => 0, false⟩
def markV : Nat → Value := mark.v
theorem mark34 : tabv markV 34 = (#[.int .i64 (-7), .int .u8 0, .int .u8 0, .int .u8 0, .int .u8 0, .int .u8 0, .int .u8 0, .int .u8 0, .int .u8 0, .int .u8 0, .int .u8 0, .int .u8 0, .int .u8 0, .int .u8 0, .int .u8 0, .int .u8 0, .int .u8 0, .int .u8 0, .int .u8 0, .int .u8 0, .int .u8 0, .int .u8 0, .int .u8 0, .int .u8 0, .int .u8 0, .int .u8 0, .int .u8 0, .int .u8 0, .int .u8 0, .int .u8 0, .int .u8 0, .int .u8 0, .int .u8 0, .bool false] : Array Value) := rfl
/-- What lend answers: the slots, with a mark behind them. -/
def Lent (B : Nat) (w : World) (v : Value) (l : List Slot) : Prop := ∃ g cap, v = .slice (some ⟨g, 0, none⟩) l.length cap ∧ OwnS B w (.slice (some ⟨g, 0, none⟩) (l.length + 1) cap) (l ++ [mark])
theorem run_app_all (w : World) (ad : Option Addr) (cap : Nat) (l : List Slot) (hS : Slots w ad l) (hz : l.length * 48 ≤ 140737488355328) :
    ∃ v' w', (Builtin.append_ #[25, 25] 25 #[.slice none 0 0, .slice ad l.length cap]).run Tryd.prog w = .ok v' w' ∧ OwnS w.heap.size w' v' l ∧ Below w.heap.size w w' := by
  obtain ⟨i, h1, h2, h3, h4⟩ := infoP
  cases ad with
  | none =>
    have hl : l = [] := by
      rcases hS with rfl | ⟨b, o, h, _⟩
      · rfl
      · cases h
    subst hl
    refine ⟨.slice none 0 0, w, ?_, OwnS.nil _ _, Below.refl _ _⟩
    simp [Builtin.append_, run_underlying Tryd.underlying25, sizeOf, typeInfo, h1, Builtin.lenOf, Builtin.firstCells, storeCells, loadCells, loadCellsFrom]
  | some a =>
    obtain ⟨v', w', e1, e2, e3, _⟩ := run_append_own (P := Tryd.prog) w w.heap.size 25 25 37 i _ 34 48 Tryd.underlying25 h1 h2 h3 h4 (by rfl) (by omega) (.slice none 0 0) 0 [] (World.ownsRow_nil w _ _ _) a l.length cap (cellsS l) (cellsS_length l)
      (fun j u hj => by
        have hjl : j < l.length * 34 := by have := (List.getElem?_eq_some_iff.1 hj).1; rw [cellsS_length] at this; exact this
        rcases hS with rfl | ⟨b, o, ha, _, h⟩
        · simp at hjl
        · cases ha
          have hk : j / 34 < l.length := by omega
          have hs : l[j / 34]? = some l[j / 34] := List.getElem?_eq_getElem hk
          have hc := h (j / 34) _ hs (j % 34) (by omega)
          have hg := cellsS_get l (j / 34) _ hs (j % 34) (by omega)
          rw [show j / 34 * 34 + j % 34 = j by omega, hj] at hg
          have hadd : (⟨b, o, none⟩ : Addr).add j = ⟨b, o + j, none⟩ := by unfold Addr.add; split <;> simp_all
          rw [hadd, hg, ← hc, show o + j / 34 * 34 + j % 34 = o + j by omega])
      (oneCell_S _) (by unfold maxLen; omega) (by omega) (Nat.le_refl _)
    refine ⟨v', w', e1, ?_, ⟨e3.os, e3.tape, e3.output, e3.size, fun k hk => e3.block k hk (by simp [Value.ownBlock])⟩⟩
    unfold OwnS
    rw [Nat.zero_add, List.nil_append] at e2
    exact e2
set_option maxRecDepth 100000 in
set_option maxHeartbeats 1000000 in
theorem lend_any (ad : Option Addr) (n cap : Nat) (l : List Slot) (hn : l.length = n) (hz : n * 48 ≤ 140737488351232) (w : World) (hS : Slots w ad l) : Calls Tryd.prog 14 #[.slice ad n cap] w fun e w' => (∃ v, e = .returned v ∧ Lent w.heap.size w' v l) ∧ Below w.heap.size w w' := by
  subst hn
  obtain ⟨v1, w1, r1, o1, b1⟩ := run_app_all w ad cap l hS (by omega)
  have o1 : OwnS w.heap.size w1 v1 l := o1
  obtain ⟨v2, w2, w3, r2, r3, o2, k2, b2⟩ := appS_step w1 w.heap.size v1 l mark o1 (by omega) b1.size
  have hlen : (l ++ [mark]).length = l.length + 1 := by simp
  obtain ⟨g, cap2, hv2, hcap⟩ : ∃ g cap2, v2 = .slice (some ⟨g, 0, none⟩) (l.length + 1) cap2 ∧ l.length + 1 ≤ cap2 := by
    have h := o2.2
    rw [hlen] at h
    rcases h with ⟨_, h⟩ | ⟨g, c, cur, h, _, _, hc, _⟩
    · omega
    · exact ⟨g, c, h, hc⟩
  subst hv2
  have R1 := hide r1
  have R2 := hide r2
  have R3 := hide r3
  have O2 : Lent w.heap.size w3 (.slice (some ⟨g, 0, none⟩) l.length cap2) l := ⟨g, cap2, rfl, by have := o2; exact this⟩
  have HO2 := hide O2
  have hb := b1.trans (b2.mono (Nat.le_refl _))
  clear r1 r2 r3 o1 o2 O2 k2 b1 b2
  obtain ⟨m, hm⟩ : ∃ m, l.length = m := ⟨_, rfl⟩
  rw [hm] at R1 hcap hz ⊢
  have HM := hide hm
  rw [hm] at HO2
  have h0 : (0 : Int) ≤ (m : Int) := by omega
  have h1 : (m : Int) ≤ (cap2 : Int) := by omega
  have h2 : m ≤ cap2 := by omega
  rw [hm] at R3
  clear hm
  go_enter Tryd.func14, Tryd.ntmps14
  go_wp2_with (first | refine wpList_app rfl _ _ _ rfl R1.out ?_ | refine wpList_buildI rfl (-7) rfl ?_ | refine wpList_slice1 rfl 25 _ rfl (.agg (tabv mark.v 34)) rfl R2.out ?_ | refine wpList_app rfl _ _ _ rfl R3.out ?_)
  go_ret
  exact ⟨⟨_, rfl, HO2.out⟩, hb⟩
theorem Lent.below {B B' : Nat} {w w' : World} {v : Value} {l : List Slot} (h : Lent B w v l) (hb : Below B' w w') (hB : w.heap.size ≤ B') : Lent B w' v l := by
  obtain ⟨g, cap, h1, h2⟩ := h
  exact ⟨g, cap, h1, h2.below hb hB⟩
theorem Lent.form {B : Nat} {w : World} {v : Value} {l : List Slot} (h : Lent B w v l) : ∃ g cap, v = .slice (some ⟨g, 0, none⟩) l.length cap ∧ OwnS B w (.slice (some ⟨g, 0, none⟩) (l.length + 1) cap) (l ++ [mark]) ∧ Slots w (some ⟨g, 0, none⟩) l ∧ At w g (l.length * 34) mark.v 34 ∧ l.length + 1 ≤ cap ∧ g < w.heap.size ∧ B ≤ g := by
  obtain ⟨g, cap, h1, h2⟩ := h
  have hlen : (l ++ [mark]).length = l.length + 1 := by simp
  obtain ⟨ad, c, e, hs, hlt, hc, _⟩ := h2.slots
  rw [hlen] at e
  cases e
  have hb := hlt _ rfl
  refine ⟨g, cap, h1, h2, ?_, ?_, by rw [hlen] at hc; exact hc, hb.1, hb.2⟩
  · refine .inr ⟨g, 0, rfl, hb.1, fun i s hi => ?_⟩
    have hil : i < l.length := (List.getElem?_eq_some_iff.1 hi).1
    obtain ⟨b', o', e', _, hA⟩ := hs.get i s (by rw [List.getElem?_append_left hil]; exact hi)
    cases e'
    exact hA
  · obtain ⟨b', o', e', _, hA⟩ := hs.get l.length mark (by rw [List.getElem?_append_right (Nat.le_refl _), Nat.sub_self]; rfl)
    cases e'
    rw [Nat.zero_add] at hA
    exact hA
set_option maxRecDepth 100000 in
set_option maxHeartbeats 1000000 in
theorem kept_any (g : Nat) (ad : Option Addr) (n c1 c2 : Nat) (l : List Slot) (hn : l.length = n) (hz : n * 48 ≤ 140737488351232) (hc : n + 1 ≤ c1) (w : World) (h1 : Slots w (some ⟨g, 0, none⟩) l) (hm : At w g (n * 34) mark.v 34) (hg : g < w.heap.size) (h2 : Slots w ad l) : Calls Tryd.prog 16 #[.slice (some ⟨g, 0, none⟩) n c1, .slice ad n c2] w fun e w' => e = .returned (.bool true) ∧ Below w.heap.size w w' := by
  have hq : ∀ w : World, (Op.equalIn 10000 37 (.agg (tabv mark.v 34)) (.agg (tabv markV 34))).run Tryd.prog w = .ok true w := fun w => by unfold markV; rw [eqSD, eqSl_refl]
  rw [mark34] at hq
  have hgs := guardS
  have hni : (n : Int) ≤ 140737488351232 := by omega
  have h0 : (0 : Int) ≤ (n : Int) := by omega
  have h3 : (n : Int) + 1 ≤ (c1 : Int) := by omega
  go_enter Tryd.func16, Tryd.ntmps16
  go_wp2_with fail
  refine (same_any _ _ n c1 c2 l hn hz _ h1 h2).mono ?_
  rintro e w1 ⟨rfl, hb⟩
  have hm1 := hm.below hb hg
  have HM := hide hm1
  clear hm hm1 h1 h2
  have h4 : (n : Int) < (n : Int) + 1 := by omega
  go_wp2_with (first | refine wpW_load_at 37 _ rfl g (n * 34) (by rfl) (by rfl) _ 34 _ HM.out Tryd.underlying37 rfl infoS ?_ | refine wpList_buildI rfl (-7) rfl ?_)
  go_ret
  exact ⟨by simp, hb⟩
end Go.Proofs.YtocojkafdgmgdaaDoor
