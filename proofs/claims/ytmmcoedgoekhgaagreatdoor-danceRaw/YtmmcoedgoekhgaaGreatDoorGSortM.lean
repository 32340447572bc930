import Derived.Test.YtmmcoedgoekhgaaGreatDoorGSpend
import Derived.Test.YtmmcoedgoekhgaaGreatDoorUNext
import Derived.Deep.RegionHeld3
import Derived.Deep.DrawnRows
import Derived.Laws.CopyRow
import Derived.Test.YtmmcoedgoekhgaaGreatDoorProg
import Derived.Shelf.SlSortCmp.KitK
/-
  Ledger: Spendable of any base; how many adds are open (printed by gen_open.py).
-/
namespace Go.Proofs.YtmmcoedgoekhgaaGreatDoor
set_option maxRecDepth 20000
open Go.RowKit S
set_option linter.unusedVariables false
set_option linter.unusedSimpArgs false
set_option maxRecDepth 100000 in
set_option maxHeartbeats 4000000 in
theorem spend_any (base : Int) (a1 a2 : Option Addr) (n1 c1 n2 c2 : Nat) (mine others : List Upd) (hn1 : mine.length = n1) (hn2 : others.length = n2) (z1 : n1 ≤ 1955000000000) (z2 : n2 ≤ 1955000000000) (k1 : n1 ≤ c1) (k2 : n2 ≤ c2) (fO fP : Int) (w : World) (hS1 : Upds w a1 mine) (hS2 : Upds w a2 others) : Calls Tryz.prog 40 #[.int .i64 base, .slice a1 n1 c1, .slice a2 n2 c2, .agg #[.int .i64 fO, .int .i64 fP]] w fun e w' => e = .returned (.int .i64 (spendA base mine others fO fP)) ∧ Below w.heap.size w w' := by
  by_cases hb : base < 0
  · rw [show spendA base mine others fO fP = 0 by unfold spendA; rw [if_pos hb]]
    have hd : decide (base < 0) = true := decide_eq_true hb
    have gb : Below w.heap.size w (w.alloc (.cells #[.int .i64 fO, .int .i64 fP] 29)) := (Below.refl _ w).alloc (Nat.le_refl _) _
    clear hb hn1 hn2 z1 z2 k1 k2
    go_enter Tryz.func40, Tryz.ntmps40
    go_wp2
    go_ret
    exact ⟨rfl, gb⟩
  · rw [show spendA base mine others fO fP = clampA (leftS base mine others fO fP) by unfold spendA; rw [if_neg hb]]
    exact spend_loops base a1 a2 n1 c1 n2 c2 mine others hn1 hn2 z1 z2 k1 k2 fO fP w hS1 hS2 (by omega)
theorem filt_next {p : Upd → Bool} {l : List Upd} {j : Nat} {x : Upd} (h : l[j]? = some x) : ((l.take (j + 1)).filter p).length = ((l.take j).filter p).length + (if p x = true then 1 else 0) := by
  rw [take_snoc h, List.filter_append, List.length_append]
  by_cases e : p x = true <;> simp [e]
set_option maxRecDepth 100000 in
set_option maxHeartbeats 4000000 in
theorem open_any (a1 a2 : Option Addr) (n1 c1 n2 c2 : Nat) (mine others : List Upd) (hn1 : mine.length = n1) (hn2 : others.length = n2) (z1 : n1 ≤ 1955000000000) (z2 : n2 ≤ 1955000000000) (k1 : n1 ≤ c1) (k2 : n2 ≤ c2) (fix : Int) (w : World) (hS1 : Upds w a1 mine) (hS2 : Upds w a2 others) : Calls Tryz.prog 43 #[.slice a1 n1 c1, .slice a2 n2 c2, .int .i64 fix] w fun e w' => e = .returned (.int .i64 (openN mine others fix : Int)) ∧ Below w.heap.size w w' := by
  obtain ⟨R, hR⟩ : ∃ R, openN mine others fix = R := ⟨_, rfl⟩
  rw [hR]
  unfold openN at hR
  rw [hn2] at hR
  obtain ⟨kP, hkP⟩ : ∃ k, inL fix n2 = k := ⟨_, rfl⟩
  rw [hkP] at hR
  have leP : kP ≤ n2 := by rw [← hkP]; exact inL_le _ _
  have HR := hide hR
  have N1 := hide hn1
  have hni1 : (n1 : Int) ≤ 140737488351232 := by omega
  have hwP : ∀ w, Calls Tryz.prog 94 #[.int .i64 fix, .slice a2 n2 c2] w fun e w' => e = .returned (.int .i64 (kP : Int)) ∧ w' = w := fun w => by have := within_any fix a2 n2 c2 w; rw [hkP] at this; exact this
  have HP := hide hwP
  have slP := fun w => sliceK w a2 n2 c2 kP (by omega)
  have rmP := removals_any a2 kP c2 (others.take kP) (by rw [List.length_take]; omega) (by omega) w (hS2.take _)
  have RP := hide rmP
  clear hR hn1 hn2 z1 z2 k1 k2 hkP rmP hwP
  go_enter Tryz.func43, Tryz.ntmps43
  go_wp2_with (go_at_call 94; go_must (refine (HP.out _).mono ?_); rintro e wx ⟨rfl, hx⟩; obtain rfl := hx.symm; clear hx)
  refine RP.out.mono ?_
  rintro e w2 ⟨b1, m1, rfl, hR, hbb1, hm1, gb⟩
  clear slP HP RP
  obtain ⟨f1, hf1⟩ : ∃ f, remK (others.take kP) = f := ⟨_, rfl⟩
  rw [hf1] at hR
  have HF1 := hide (fun x => congrFun hf1 x)
  clear hf1
  go_wp2
  go_loopw [19, 8] (fun i k wr => ∃ j : Nat, j ≤ n1 ∧ i = .int .i64 (j : Int) ∧ k = .int .i64 ((((mine.take j).filter (openB (others.take kP))).length : Nat) : Int) ∧ RMap wr b1 m1 f1 ∧ Below w.heap.size w wr) (fun i _ _ => n1 - (intOf i).toNat)
  case atStart => exact ⟨0, Nat.zero_le _, rfl, rfl, hR, gb⟩
  case round =>
    clear hR gb
    obtain ⟨j, hj, rfl, rfl, hR, gb⟩ := hrel
    by_cases hlt : j < n1
    · have hd : decide ((j : Int) < (n1 : Int)) = true := decide_eq_true (by omega)
      have hd2 : decide (j < n1) = true := decide_eq_true hlt
      have hk0 : (0 : Int) ≤ (j : Int) := by omega
      have hk1 : (j : Int) < (n1 : Int) := by omega
      obtain ⟨s, hs⟩ : ∃ s, mine[j]? = some s := ⟨_, List.getElem?_eq_getElem (by rw [N1.out]; exact hlt)⟩
      obtain ⟨b, o, rfl, hb1, hA⟩ := (hS1.below gb).get j s hs
      have HS := hide hs
      have HA := hide hA
      obtain ⟨w6, w7, hW6, q1, hW7, r1, rb⟩ := newU wr s
      have Q1 := hide q1
      have R7 := hide r1
      have c0 : w7.cell? ⟨wr.heap.size, 0, none⟩ = some (.int .i64 s.kind) := r1.cell 0 (by omega)
      have c1 : w7.cell? ⟨wr.heap.size, 1, none⟩ = some (.int .i64 s.id) := r1.cell 1 (by omega)
      have c2 : w7.cell? ⟨wr.heap.size, 2, none⟩ = some (.int .i64 s.amt) := r1.cell 2 (by omega)
      clear hs hA hb1 q1 r1
      have gb7 := gb.trans (rb.mono gb.size)
      have hR7 := hR.below rb
      have hge7 := gb7.size
      have NX := hide (filt_next (p := openB (others.take kP)) HS.out)
      obtain ⟨Nj, hNj⟩ : ∃ N, ((mine.take j).filter (openB (others.take kP))).length = N := ⟨_, rfl⟩
      have hNle : (Nj : Int) ≤ 140737488351232 := by
        have e1 := List.length_filter_le (openB (others.take kP)) (mine.take j)
        have e2 := List.length_take_le j mine
        omega
      rw [hNj]
      generalize hgU : wr.heap.size = gU at Q1 R7 c0 c1 c2 hW7
      clear rb hR gb c0 c2
      cases ha : addB s with
      | false =>
        have hC : Calls Tryz.prog 96 #[.agg (tabv s.v 36)] w7 fun e w' => e = .returned (.bool false) ∧ Below w7.heap.size w7 w' := by have := isAdd_any s w7; rw [ha] at this; exact this
        have HC := hide hC
        clear hC
        go_wp2_with (first | refine wpW_load_at 34 _ rfl (b) (o + j * 36) (by rfl) (by rfl) _ 36 _ (HA.out) Tryz.underlying34 rfl infoU ?_ | refine wpList_storeU rfl _ _ rfl rfl (gU) (s) rfl rfl _ Q1.out ?_ | refine wpW_load_at 34 _ rfl (gU) (0) (by rfl) (by rfl) _ 36 _ (by first | exact R7.out.at_ 0 (by omega) (fun i hi => by rw [Nat.zero_add]) | (rw [hW7]; exact R7.out.at_ 0 (by omega) (fun i hi => by rw [Nat.zero_add]))) Tryz.underlying34 rfl infoU ?_ | (go_at_call 96; go_must (refine HC.out.mono ?_); rintro e w8 ⟨rfl, hb8⟩; have d1 := (hb8.cell (p := ⟨gU, 1, none⟩) R7.out.lt).trans c1; have hR8 := hR7.below hb8))
        go_roundw
        case rel => exact ⟨j + 1, by omega, by go_num, by rw [NX.out, if_neg (by unfold openB; rw [ha]; simp), hNj]; first | rfl | (exact int_eq (by omega)), hR8, gb7.trans (hb8.mono hge7)⟩
        case measure => simp [intOf]; omega
      | true =>
        have hC : Calls Tryz.prog 96 #[.agg (tabv s.v 36)] w7 fun e w' => e = .returned (.bool true) ∧ Below w7.heap.size w7 w' := by have := isAdd_any s w7; rw [ha] at this; exact this
        have HC := hide hC
        have HI0 := hide (add_id ha).1
        have HI1 := hide (add_id ha).2
        clear hC
        cases hf : (f1 s.id == 0) with
        | false =>
          go_wp2_with (first | refine wpW_load_at 34 _ rfl (b) (o + j * 36) (by rfl) (by rfl) _ 36 _ (HA.out) Tryz.underlying34 rfl infoU ?_ | refine wpList_storeU rfl _ _ rfl rfl (gU) (s) rfl rfl _ Q1.out ?_ | refine wpW_load_at 34 _ rfl (gU) (0) (by rfl) (by rfl) _ 36 _ (by first | exact R7.out.at_ 0 (by omega) (fun i hi => by rw [Nat.zero_add]) | (rw [hW7]; exact R7.out.at_ 0 (by omega) (fun i hi => by rw [Nat.zero_add]))) Tryz.underlying34 rfl infoU ?_ | (go_at_call 96; go_must (refine HC.out.mono ?_); rintro e w8 ⟨rfl, hb8⟩; have d1 := (hb8.cell (p := ⟨gU, 1, none⟩) R7.out.lt).trans c1; have hR8 := hR7.below hb8; have hL := hR8.look HI0.out HI1.out))
          go_roundw
          case rel => exact ⟨j + 1, by omega, by go_num, by rw [NX.out, if_neg (by unfold openB; rw [ha, HF1.out, hf]; simp), hNj]; first | rfl | (exact int_eq (by omega)), hR8, gb7.trans (hb8.mono hge7)⟩
          case measure => simp [intOf]; omega
        | true =>
          go_wp2_with (first | refine wpW_load_at 34 _ rfl (b) (o + j * 36) (by rfl) (by rfl) _ 36 _ (HA.out) Tryz.underlying34 rfl infoU ?_ | refine wpList_storeU rfl _ _ rfl rfl (gU) (s) rfl rfl _ Q1.out ?_ | refine wpW_load_at 34 _ rfl (gU) (0) (by rfl) (by rfl) _ 36 _ (by first | exact R7.out.at_ 0 (by omega) (fun i hi => by rw [Nat.zero_add]) | (rw [hW7]; exact R7.out.at_ 0 (by omega) (fun i hi => by rw [Nat.zero_add]))) Tryz.underlying34 rfl infoU ?_ | (go_at_call 96; go_must (refine HC.out.mono ?_); rintro e w8 ⟨rfl, hb8⟩; have d1 := (hb8.cell (p := ⟨gU, 1, none⟩) R7.out.lt).trans c1; have hR8 := hR7.below hb8; have hL := hR8.look HI0.out HI1.out))
          go_roundw
          case rel => exact ⟨j + 1, by omega, by go_num, by rw [NX.out, if_pos (by unfold openB; rw [ha, HF1.out, hf]; rfl), hNj]; first | rfl | (exact int_eq (by omega)), hR8, gb7.trans (hb8.mono hge7)⟩
          case measure => simp [intOf]; omega
    · have hjn : n1 = j := by omega
      subst hjn
      have hd : decide ((n1 : Int) < (n1 : Int)) = false := decide_eq_false (by omega)
      have hd2 : decide (n1 < n1) = false := decide_eq_false (by omega)
      rw [show mine.take n1 = mine by rw [← N1.out, List.take_length], HR.out]
      go_wp2
      go_ret
      exact ⟨rfl, gb⟩
end Go.Proofs.YtmmcoedgoekhgaaGreatDoor
/-
  The document's sums (Units times 2^60 and a rest), its counts and its first removals.
-/
namespace Go.Proofs.YtmmcoedgoekhgaaGreatDoor
set_option maxRecDepth 20000
open Go.RowKit S
set_option linter.unusedVariables false
set_option linter.unusedSimpArgs false
section
variable {ops : Array Oper} {rest : List Oper} {o : Oper} {a : Act} {w : World} {Q : Exit → Act → World → Prop}
end
end Go.Proofs.YtmmcoedgoekhgaaGreatDoor
/-
  The document's Spendable and Open (printed by gen_doc2.py).
-/
namespace Go.Proofs.YtmmcoedgoekhgaaGreatDoor
set_option maxRecDepth 20000
open Go.RowKit S
set_option linter.unusedVariables false
set_option linter.unusedSimpArgs false
def TW (w : World) (g : Nat) (X : Int) : Prop := Has w g 209 (totv X) 2
theorem TW.below {w w' : World} {g : Nat} {X : Int} (h : TW w g X) (k : Below w.heap.size w w') : TW w' g X := Has.below h k (Has.lt h)
theorem TW.at_ {w : World} {g : Nat} {X : Int} (h : TW w g X) : At w g 0 (totv X) 2 := Has.at_ h 0 (by omega) (fun i hi => by rw [Nat.zero_add])
theorem TW.put {w : World} {g : Nat} {X : Int} (h : TW w g X) (Y : Int) : TW (w.setRow g (tabv (totv Y) 2)) g Y := Has.row h _ (totv Y) rfl
end Go.Proofs.YtmmcoedgoekhgaaGreatDoor
/-
  The law's own: lend, kept, more; copy of updates; operations of a drawn region.
-/
namespace Go.Proofs.YtmmcoedgoekhgaaGreatDoor
set_option maxRecDepth 20000
open Go.RowKit S
set_option linter.unusedVariables false
set_option linter.unusedSimpArgs false
theorem takeH {P : Program} {ops : Array Oper} {Q : Exit → Act → World → Prop} {md : Region.Mode} {S : World → Prop} (i : Nat) (d : Option Tmp) (v : Value) {oi : Oper} {fuel : Nat} {listed : Array Bool} {a : Act} {w : World} (hi : ops[i]? = some oi) (hd : oi.dst = d)
    (hs : Region.noSelect ops = true) (hf : Region.free md ops listed i = true) (hr : (Region.ready md ops listed).contains i = true)
    (hQ : ∀ c a w, Q (.panic c) (a.put oi.dst v) w → Q (.panic c) a w) (hw : Region.wanted oi (yielded ops a.tmps) = true) (hy : ∀ w, S w → (execOp a.eval oi).run P w = .ok (.value v) w) (hS : S w)
    (h : wpAnyH P md ops Q S fuel (listed.setIfInBounds i true) (a.put d v) w) : wpAnyH P md ops Q S (fuel + 1) listed a w :=
  wpAnyH_take hi hs hf hr hQ (.inl ⟨hw, hy⟩) hS (by rw [hd]; exact h)
-- stands in another text: skH
def mark7 : Upd := ⟨-7, 0, 0, fun _ => 0, nilB⟩
/-- What lend answers: the updates, with a mark behind them in the spare room. -/
def Lend (B : Nat) (w : World) (v : Value) (l : List Upd) : Prop := ∃ g cap, v = .slice (some ⟨g, 0, none⟩) l.length cap ∧ OwnU B w (.slice (some ⟨g, 0, none⟩) (l.length + 1) cap) (l ++ [mark7])
-- left out in this seat: lend_any
theorem Lend.below {B B' : Nat} {w w' : World} {v : Value} {l : List Upd} (h : Lend B w v l) (hb : Below B' w w') (hB : w.heap.size ≤ B') : Lend B w' v l := by
  obtain ⟨g, cap, h1, h2⟩ := h
  exact ⟨g, cap, h1, h2.below hb hB⟩
theorem Lend.form {B : Nat} {w : World} {v : Value} {l : List Upd} (h : Lend B w v l) : ∃ g cap, v = .slice (some ⟨g, 0, none⟩) l.length cap ∧ OwnU B w (.slice (some ⟨g, 0, none⟩) (l.length + 1) cap) (l ++ [mark7]) ∧ Upds w (some ⟨g, 0, none⟩) (l ++ [mark7]) ∧ Upds w (some ⟨g, 0, none⟩) l ∧ l.length + 1 ≤ cap ∧ g < w.heap.size ∧ B ≤ g := by
  obtain ⟨g, cap, rfl, h2⟩ := h
  have hlen : (l ++ [mark7]).length = l.length + 1 := by simp
  obtain ⟨ad, c, e, hs, hlt, hc, hm⟩ := h2.upds
  rw [hlen] at e
  cases e
  have hb := hlt _ rfl
  refine ⟨g, cap, rfl, h2, hs, .inr ⟨g, 0, rfl, hb.1, fun i s hi => ?_⟩, by rw [hlen] at hc; exact hc, hb.1, hb.2⟩
  have hil : i < l.length := (List.getElem?_eq_some_iff.1 hi).1
  obtain ⟨b', o', e', _, hA⟩ := hs.get i s (by rw [List.getElem?_append_left hil]; exact hi)
  cases e'
  exact hA
-- left out in this seat: kept_any
end Go.Proofs.YtmmcoedgoekhgaaGreatDoor
/-
  A stable sort, in plain words: what it says, what merging two sorted parts makes of it.
-/
namespace Go.Proofs.YtmmcoedgoekhgaaGreatDoor
set_option maxRecDepth 20000
open Go.Sort
set_option linter.unusedVariables false
section
variable {α : Type} (key : α → Int)
def Srt (l : List α) : Prop := l.Pairwise fun a b => key a ≤ key b
def Sam (l l' : List α) : Prop := ∀ k, l.filter (fun a => key a == k) = l'.filter (fun a => key a == k)
def Sorts (l l' : List α) : Prop := Srt key l' ∧ Sam key l l'
variable {key} {a a' b b' c l l' A B A1 A2 B1 B2 M1 M2 : List α} {x : α}
theorem Sam.refl (l : List α) : Sam key l l := fun _ => rfl
theorem Sam.trans (h : Sam key a b) (k : Sam key b c) : Sam key a c := fun i => (h i).trans (k i)
theorem Sam.symm (h : Sam key a b) : Sam key b a := fun i => (h i).symm
theorem Sam.app (h : Sam key a a') (k : Sam key b b') : Sam key (a ++ b) (a' ++ b') := fun i => by rw [List.filter_append, List.filter_append, h i, k i]
theorem Sam.mem (h : Sam key a b) (hx : x ∈ a) : x ∈ b := by
  have e := h (key x)
  have : x ∈ a.filter (fun y => key y == key x) := List.mem_filter.2 ⟨hx, by simp⟩
  rw [e] at this
  exact (List.mem_filter.1 this).1
theorem Sam.swap (h : ∀ x ∈ A, ∀ y ∈ B, key x ≠ key y) : Sam key (A ++ B) (B ++ A) := fun k => by
  rw [List.filter_append, List.filter_append]
  by_cases hA : ∃ x ∈ A, key x = k
  · obtain ⟨x, hx, rfl⟩ := hA
    have : B.filter (fun a => key a == key x) = [] := by
      rw [List.filter_eq_nil_iff]
      intro y hy
      have := h x hx y hy
      simp; exact fun e => this e.symm
    rw [this]; simp
  · have : A.filter (fun a => key a == k) = [] := by
      rw [List.filter_eq_nil_iff]
      intro y hy
      simp; exact fun e => hA ⟨y, hy, e⟩
    rw [this]; simp
theorem Srt.app (h1 : Srt key a) (h2 : Srt key b) (h : ∀ x ∈ a, ∀ y ∈ b, key x ≤ key y) : Srt key (a ++ b) := List.pairwise_append.2 ⟨h1, h2, h⟩
theorem sorts_unique : ∀ (l1 l2 : List α), Srt key l1 → Srt key l2 → Sam key l1 l2 → l1 = l2
  | [], [], _, _, _ => rfl
  | [], y :: l2, _, _, h => by have := h.symm.mem (x := y) (by simp); simp at this
  | x :: l1, [], _, _, h => by have := h.mem (x := x) (by simp); simp at this
  | x :: l1, y :: l2, h1, h2, h => by
    have hy : y ∈ x :: l1 := h.symm.mem (by simp)
    have hx : x ∈ y :: l2 := h.mem (by simp)
    have k1 : key x ≤ key y := by
      rcases List.mem_cons.1 hy with rfl | hm
      · exact Int.le_refl _
      · exact (List.pairwise_cons.1 h1).1 y hm
    have k2 : key y ≤ key x := by
      rcases List.mem_cons.1 hx with rfl | hm
      · exact Int.le_refl _
      · exact (List.pairwise_cons.1 h2).1 x hm
    have e : key x = key y := by omega
    have hh := h (key x)
    rw [List.filter_cons_of_pos (by simp), List.filter_cons_of_pos (by simp [e])] at hh
    injection hh with hxy hl
    subst hxy
    rw [sorts_unique l1 l2 (List.pairwise_cons.1 h1).2 (List.pairwise_cons.1 h2).2 (fun k => by
      have := h k
      by_cases hk : key x = k
      · subst hk; exact hl
      · rw [List.filter_cons_of_neg (by simpa using hk), List.filter_cons_of_neg (by simpa using hk)] at this; exact this)]
/-- Two sorted parts, cut so that what is ahead is at most what is behind: merged in halves. -/
theorem merge_halves (hA : Srt key (A1 ++ A2)) (hB : Srt key (B1 ++ B2)) (h1 : ∀ x ∈ A1, ∀ y ∈ B2, key x ≤ key y) (h2 : ∀ x ∈ A2, ∀ y ∈ B1, key y < key x)
    (s1 : Sorts key (A1 ++ B1) M1) (s2 : Sorts key (A2 ++ B2) M2) : Sorts key ((A1 ++ A2) ++ (B1 ++ B2)) (M1 ++ M2) := by
  have pA := List.pairwise_append.1 hA
  have pB := List.pairwise_append.1 hB
  refine ⟨s1.1.app s2.1 fun x hx y hy => ?_, ?_⟩
  · rcases List.mem_append.1 (s1.2.symm.mem hx) with hx | hx <;> rcases List.mem_append.1 (s2.2.symm.mem hy) with hy | hy
    · exact pA.2.2 x hx y hy
    · exact h1 x hx y hy
    · exact Int.le_of_lt (h2 y hy x hx)
    · exact pB.2.2 x hx y hy
  · have e : Sam key ((A1 ++ A2) ++ (B1 ++ B2)) ((A1 ++ B1) ++ (A2 ++ B2)) := by
      have := (Sam.refl (key := key) A1).app ((Sam.swap (key := key) (A := A2) (B := B1) (fun x hx y hy => by have := h2 x hx y hy; omega)).app (Sam.refl (key := key) B2))
      simpa [List.append_assoc] using this
    exact e.trans (s1.2.app s2.2)
theorem merge_one (hB : Srt key (B1 ++ B2)) (h1 : ∀ y ∈ B1, key y < key x) (h2 : ∀ y ∈ B2, key x ≤ key y) : Sorts key ([x] ++ (B1 ++ B2)) (B1 ++ ([x] ++ B2)) := by
  have pB := List.pairwise_append.1 hB
  refine ⟨?_, ?_⟩
  · refine Srt.app pB.1 (List.pairwise_cons.2 ⟨h2, pB.2.1⟩) fun y hy z hz => ?_
    rcases List.mem_cons.1 hz with rfl | hz
    · exact Int.le_of_lt (h1 y hy)
    · exact pB.2.2 y hy z hz
  · have := (Sam.swap (key := key) (A := [x]) (B := B1) (fun z hz y hy => by simp at hz; subst hz; have := h1 y hy; omega)).app (Sam.refl (key := key) B2)
    simpa [List.append_assoc] using this
theorem merge_last (hA : Srt key (A1 ++ A2)) (h1 : ∀ y ∈ A1, key y ≤ key x) (h2 : ∀ y ∈ A2, key x < key y) : Sorts key ((A1 ++ A2) ++ [x]) (A1 ++ ([x] ++ A2)) := by
  have pA := List.pairwise_append.1 hA
  refine ⟨?_, ?_⟩
  · refine Srt.app pA.1 (List.pairwise_cons.2 ⟨fun y hy => Int.le_of_lt (h2 y hy), pA.2.1⟩) fun y hy z hz => ?_
    rcases List.mem_cons.1 hz with rfl | hz
    · exact h1 y hy
    · exact pA.2.2 y hy z hz
  · have := (Sam.refl (key := key) A1).app (Sam.swap (key := key) (A := A2) (B := [x]) (fun z hz y hy => by simp at hy; subst hy; have := h2 z hz; omega))
    simpa [List.append_assoc] using this
end
section
variable {α : Type} [Inhabited α]
theorem get_of {d : Array α} {l : List α} {i : Nat} {x : α} (h : d.toList = l) (hx : l[i]? = some x) : d[i]! = x := by
  rw [← h, Array.getElem?_toList] at hx
  simp [Array.getElem!_eq_getD, Array.getD_eq_getD_getElem?, hx]
/-- Two places exchanged, by lists. -/
theorem swp_list {d : Array α} {X Z Y : List α} {x y : α} (h : d.toList = X ++ (x :: (Z ++ (y :: Y)))) (i j : Nat) (hi : i = X.length) (hj : j = X.length + 1 + Z.length) : (swp d i j).toList = X ++ (y :: (Z ++ (x :: Y))) := by
  have ex : d[i]! = x := get_of h (by subst hi; simp)
  have ey : d[j]! = y := get_of h (by subst hj; rw [List.getElem?_append_right (by omega), show X.length + 1 + Z.length - X.length = Z.length + 1 by omega, List.getElem?_cons_succ, List.getElem?_append_right (by omega)]; simp)
  unfold swp
  rw [ex, ey, Array.toList_setIfInBounds, Array.toList_setIfInBounds, h]
  subst hi hj
  rw [List.set_append_right _ _ (by omega), Nat.sub_self, List.set_cons_zero, List.set_append_right _ _ (by omega), show X.length + 1 + Z.length - X.length = Z.length + 1 by omega, List.set_cons_succ, List.set_append_right _ _ (by omega), Nat.sub_self, List.set_cons_zero]
end
theorem size_of {α : Type} {d : Array α} {l : List α} (h : d.toList = l) : d.size = l.length := by rw [← h, Array.length_toList]
end Go.Proofs.YtmmcoedgoekhgaaGreatDoor
