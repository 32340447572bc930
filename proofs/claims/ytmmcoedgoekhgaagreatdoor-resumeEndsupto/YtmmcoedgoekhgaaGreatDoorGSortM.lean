import Derived.Test.YtmmcoedgoekhgaaGreatDoorGMap
import Derived.Test.YtmmcoedgoekhgaaGreatDoorLast
import Derived.Deep.RegionHeld3
import Derived.Deep.DrawnRows
import Derived.Laws.CopyRow
import Derived.Test.YtmmcoedgoekhgaaGreatDoorProg
import Derived.Shelf.SlSortCmp.KitK
/-
  Ledger: what is spendable, how many adds are open (printed by gen_spend.py).
-/
namespace Go.Proofs.YtmmcoedgoekhgaaGreatDoor
set_option maxRecDepth 20000
open Go.RowKit S
set_option linter.unusedVariables false
set_option linter.unusedSimpArgs false
theorem elU : Tryz.prog.underlying 27 = some (.slice (Tryz.prog.elem 27)) := by kernel_rfl
theorem elU2 : Tryz.prog.elem 27 = 34 := by kernel_rfl
theorem sizeU (w : World) : (sizeOf (Tryz.prog.elem 27)).run Tryz.prog w = .ok 36 w := by
  obtain ⟨i, h1, h2, h3, h4⟩ := infoUP
  rw [elU2]
  simp [sizeOf, typeInfo, h1, h3]
theorem add0 (x : Addr) : x.add 0 = x := by unfold Addr.add; split <;> simp_all
theorem sliceK (w : World) (ad : Option Addr) (n cap k : Nat) (hk : k ≤ cap) : (Instr.sliceAt 27 (.slice ad n cap) none (some (.int .i64 (k : Int))) none).run Tryz.prog w = .ok (.slice ad k cap) w := by
  have e := run_sliceAt_slice (P := Tryz.prog) w 27 (.slice ad n cap) none (some (.int .i64 (k : Int))) none elU
  have e2 := run_slice_h (P := Tryz.prog) w 27 ad n cap elU .i64 (k : Int) (by omega) (by omega)
  rw [e, e2, sizeU]
  simp only [Result.andThen, sliced]
  have : (if cap = 0 then ad else ad.map (·.add (0 * 36))) = ad := by
    split
    · rfl
    · cases ad <;> simp [add0]
  rw [this]; simp

/-- Amounts together of those that a test takes. -/
def sumIf (p : Upd → Bool) : List Upd → Int
  | [] => 0
  | u :: l => (if p u = true then u.amt else 0) + sumIf p l
theorem sumIf_append (p : Upd → Bool) (a b : List Upd) : sumIf p (a ++ b) = sumIf p a + sumIf p b := by
  induction a with
  | nil => simp [sumIf]
  | cons x a ih => simp only [List.cons_append, sumIf, ih]; omega
theorem sumIf_next {p : Upd → Bool} {l : List Upd} {j : Nat} {x : Upd} (h : l[j]? = some x) : sumIf p (l.take (j + 1)) = sumIf p (l.take j) + (if p x = true then x.amt else 0) := by
  rw [take_snoc h, sumIf_append]; simp [sumIf]
theorem sumIf_bd {p : Upd → Bool} (hp : ∀ u, p u = true → addB u = true) (l : List Upd) : 0 ≤ sumIf p l ∧ sumIf p l ≤ (l.length : Int) * 1152921504606846976 := by
  induction l with
  | nil => simp [sumIf]
  | cons x l ih =>
    simp only [sumIf, List.length_cons]
    by_cases h : p x = true
    · have := add_amt (hp x h)
      rw [if_pos h]
      omega
    · rw [if_neg h]
      omega
def lostB (b : List Upd) (u : Upd) : Bool := addB u && (remK b u.id != 3)
def wonB (b : List Upd) (u : Upd) : Bool := addB u && (remK b u.id == 2)
def openB (b : List Upd) (u : Upd) : Bool := addB u && (remK b u.id == 0)
theorem lost_add (b : List Upd) (u : Upd) (h : lostB b u = true) : addB u = true := by unfold lostB at h; rw [Bool.and_eq_true] at h; exact h.1
theorem won_add (b : List Upd) (u : Upd) (h : wonB b u = true) : addB u = true := by unfold wonB at h; rw [Bool.and_eq_true] at h; exact h.1
theorem Upds.take {w : World} {ad : Option Addr} {l : List Upd} (h : Upds w ad l) (k : Nat) : Upds w ad (l.take k) := by
  rcases h with rfl | ⟨b, o, h1, h2, h3⟩
  · exact .inl (by simp)
  · exact .inr ⟨b, o, h1, h2, fun i s hs => h3 i s (by rw [List.getElem?_take] at hs; split at hs <;> simp_all)⟩
theorem Tot.keep {S : Nat → Prop} {w w' : World} {g : Nat} {X : Int} (h : Tot w g X) (k : Keep S w w') (hS : ¬ S g) : Tot w' g X := Has.keep h k hS
theorem Tot.below {w w' : World} {g : Nat} {X : Int} (h : Tot w g X) (k : Below w.heap.size w w') : Tot w' g X := Has.below h k (Has.lt h)
theorem RMap.below {w w' : World} {b n : Nat} {f : Int → Int} (h : RMap w b n f) (k : Below w.heap.size w w') : RMap w' b n f := h.same (k.block b h.lt)
theorem RMap.keep {S : Nat → Prop} {w w' : World} {b n : Nat} {f : Int → Int} (h : RMap w b n f) (k : Keep S w w') (hS : ¬ S b) : RMap w' b n f := h.same (k.block b h.lt hS)
end Go.Proofs.YtmmcoedgoekhgaaGreatDoor
/-
  Ledger: Spendable of any base; how many adds are open (printed by gen_open.py).
-/
namespace Go.Proofs.YtmmcoedgoekhgaaGreatDoor
set_option maxRecDepth 20000
open Go.RowKit S
set_option linter.unusedVariables false
set_option linter.unusedSimpArgs false
end Go.Proofs.YtmmcoedgoekhgaaGreatDoor
/-
  The document's sums (Units times 2^60 and a rest), its counts and its first removals.
-/
namespace Go.Proofs.YtmmcoedgoekhgaaGreatDoor
set_option maxRecDepth 20000
open Go.RowKit S
set_option linter.unusedVariables false
set_option linter.unusedSimpArgs false
section
variable {ops : Array Oper} {rest : List Oper} {o : Oper} {a : Act} {w : World} {Q : Exit → Act → World → Prop}
end
end Go.Proofs.YtmmcoedgoekhgaaGreatDoor
/-
  The document's Spendable and Open (printed by gen_doc2.py).
-/
namespace Go.Proofs.YtmmcoedgoekhgaaGreatDoor
set_option maxRecDepth 20000
open Go.RowKit S
set_option linter.unusedVariables false
set_option linter.unusedSimpArgs false
def TW (w : World) (g : Nat) (X : Int) : Prop := Has w g 209 (totv X) 2
theorem TW.below {w w' : World} {g : Nat} {X : Int} (h : TW w g X) (k : Below w.heap.size w w') : TW w' g X := Has.below h k (Has.lt h)
theorem TW.at_ {w : World} {g : Nat} {X : Int} (h : TW w g X) : At w g 0 (totv X) 2 := Has.at_ h 0 (by omega) (fun i hi => by rw [Nat.zero_add])
theorem TW.put {w : World} {g : Nat} {X : Int} (h : TW w g X) (Y : Int) : TW (w.setRow g (tabv (totv Y) 2)) g Y := Has.row h _ (totv Y) rfl
end Go.Proofs.YtmmcoedgoekhgaaGreatDoor
/-
  The law's own: lend, kept, more; copy of updates; operations of a drawn region.
-/
namespace Go.Proofs.YtmmcoedgoekhgaaGreatDoor
set_option maxRecDepth 20000
open Go.RowKit S
set_option linter.unusedVariables false
set_option linter.unusedSimpArgs false
theorem takeH {P : Program} {ops : Array Oper} {Q : Exit → Act → World → Prop} {md : Region.Mode} {S : World → Prop} (i : Nat) (d : Option Tmp) (v : Value) {oi : Oper} {fuel : Nat} {listed : Array Bool} {a : Act} {w : World} (hi : ops[i]? = some oi) (hd : oi.dst = d)
    (hs : Region.noSelect ops = true) (hf : Region.free md ops listed i = true) (hr : (Region.ready md ops listed).contains i = true)
    (hQ : ∀ c a w, Q (.panic c) (a.put oi.dst v) w → Q (.panic c) a w) (hw : Region.wanted oi (yielded ops a.tmps) = true) (hy : ∀ w, S w → (execOp a.eval oi).run P w = .ok (.value v) w) (hS : S w)
    (h : wpAnyH P md ops Q S fuel (listed.setIfInBounds i true) (a.put d v) w) : wpAnyH P md ops Q S (fuel + 1) listed a w :=
  wpAnyH_take hi hs hf hr hQ (.inl ⟨hw, hy⟩) hS (by rw [hd]; exact h)
-- stands in another text: skH
def mark7 : Upd := ⟨-7, 0, 0, fun _ => 0, nilB⟩
/-- What lend answers: the updates, with a mark behind them in the spare room. -/
def Lend (B : Nat) (w : World) (v : Value) (l : List Upd) : Prop := ∃ g cap, v = .slice (some ⟨g, 0, none⟩) l.length cap ∧ OwnU B w (.slice (some ⟨g, 0, none⟩) (l.length + 1) cap) (l ++ [mark7])
-- left out in this seat: lend_any
theorem Lend.below {B B' : Nat} {w w' : World} {v : Value} {l : List Upd} (h : Lend B w v l) (hb : Below B' w w') (hB : w.heap.size ≤ B') : Lend B w' v l := by
  obtain ⟨g, cap, h1, h2⟩ := h
  exact ⟨g, cap, h1, h2.below hb hB⟩
theorem Lend.form {B : Nat} {w : World} {v : Value} {l : List Upd} (h : Lend B w v l) : ∃ g cap, v = .slice (some ⟨g, 0, none⟩) l.length cap ∧ OwnU B w (.slice (some ⟨g, 0, none⟩) (l.length + 1) cap) (l ++ [mark7]) ∧ Upds w (some ⟨g, 0, none⟩) (l ++ [mark7]) ∧ Upds w (some ⟨g, 0, none⟩) l ∧ l.length + 1 ≤ cap ∧ g < w.heap.size ∧ B ≤ g := by
  obtain ⟨g, cap, rfl, h2⟩ := h
  have hlen : (l ++ [mark7]).length = l.length + 1 := by simp
  obtain ⟨ad, c, e, hs, hlt, hc, hm⟩ := h2.upds
  rw [hlen] at e
  cases e
  have hb := hlt _ rfl
  refine ⟨g, cap, rfl, h2, hs, .inr ⟨g, 0, rfl, hb.1, fun i s hi => ?_⟩, by rw [hlen] at hc; exact hc, hb.1, hb.2⟩
  have hil : i < l.length := (List.getElem?_eq_some_iff.1 hi).1
  obtain ⟨b', o', e', _, hA⟩ := hs.get i s (by rw [List.getElem?_append_left hil]; exact hi)
  cases e'
  exact hA
-- left out in this seat: kept_any
end Go.Proofs.YtmmcoedgoekhgaaGreatDoor
/-
  A stable sort, in plain words: what it says, what merging two sorted parts makes of it.
-/
namespace Go.Proofs.YtmmcoedgoekhgaaGreatDoor
set_option maxRecDepth 20000
open Go.Sort
set_option linter.unusedVariables false
section
variable {α : Type} (key : α → Int)
def Srt (l : List α) : Prop := l.Pairwise fun a b => key a ≤ key b
def Sam (l l' : List α) : Prop := ∀ k, l.filter (fun a => key a == k) = l'.filter (fun a => key a == k)
def Sorts (l l' : List α) : Prop := Srt key l' ∧ Sam key l l'
variable {key} {a a' b b' c l l' A B A1 A2 B1 B2 M1 M2 : List α} {x : α}
theorem Sam.refl (l : List α) : Sam key l l := fun _ => rfl
theorem Sam.trans (h : Sam key a b) (k : Sam key b c) : Sam key a c := fun i => (h i).trans (k i)
theorem Sam.symm (h : Sam key a b) : Sam key b a := fun i => (h i).symm
theorem Sam.app (h : Sam key a a') (k : Sam key b b') : Sam key (a ++ b) (a' ++ b') := fun i => by rw [List.filter_append, List.filter_append, h i, k i]
theorem Sam.mem (h : Sam key a b) (hx : x ∈ a) : x ∈ b := by
  have e := h (key x)
  have : x ∈ a.filter (fun y => key y == key x) := List.mem_filter.2 ⟨hx, by simp⟩
  rw [e] at this
  exact (List.mem_filter.1 this).1
theorem Sam.swap (h : ∀ x ∈ A, ∀ y ∈ B, key x ≠ key y) : Sam key (A ++ B) (B ++ A) := fun k => by
  rw [List.filter_append, List.filter_append]
  by_cases hA : ∃ x ∈ A, key x = k
  · obtain ⟨x, hx, rfl⟩ := hA
    have : B.filter (fun a => key a == key x) = [] := by
      rw [List.filter_eq_nil_iff]
      intro y hy
      have := h x hx y hy
      simp; exact fun e => this e.symm
    rw [this]; simp
  · have : A.filter (fun a => key a == k) = [] := by
      rw [List.filter_eq_nil_iff]
      intro y hy
      simp; exact fun e => hA ⟨y, hy, e⟩
    rw [this]; simp
theorem Srt.app (h1 : Srt key a) (h2 : Srt key b) (h : ∀ x ∈ a, ∀ y ∈ b, key x ≤ key y) : Srt key (a ++ b) := List.pairwise_append.2 ⟨h1, h2, h⟩
theorem sorts_unique : ∀ (l1 l2 : List α), Srt key l1 → Srt key l2 → Sam key l1 l2 → l1 = l2
  | [], [], _, _, _ => rfl
  | [], y :: l2, _, _, h => by have := h.symm.mem (x := y) (by simp); simp at this
  | x :: l1, [], _, _, h => by have := h.mem (x := x) (by simp); simp at this
  | x :: l1, y :: l2, h1, h2, h => by
    have hy : y ∈ x :: l1 := h.symm.mem (by simp)
    have hx : x ∈ y :: l2 := h.mem (by simp)
    have k1 : key x ≤ key y := by
      rcases List.mem_cons.1 hy with rfl | hm
      · exact Int.le_refl _
      · exact (List.pairwise_cons.1 h1).1 y hm
    have k2 : key y ≤ key x := by
      rcases List.mem_cons.1 hx with rfl | hm
      · exact Int.le_refl _
      · exact (List.pairwise_cons.1 h2).1 x hm
    have e : key x = key y := by omega
    have hh := h (key x)
    rw [List.filter_cons_of_pos (by simp), List.filter_cons_of_pos (by simp [e])] at hh
    injection hh with hxy hl
    subst hxy
    rw [sorts_unique l1 l2 (List.pairwise_cons.1 h1).2 (List.pairwise_cons.1 h2).2 (fun k => by
      have := h k
      by_cases hk : key x = k
      · subst hk; exact hl
      · rw [List.filter_cons_of_neg (by simpa using hk), List.filter_cons_of_neg (by simpa using hk)] at this; exact this)]
/-- Two sorted parts, cut so that what is ahead is at most what is behind: merged in halves. -/
theorem merge_halves (hA : Srt key (A1 ++ A2)) (hB : Srt key (B1 ++ B2)) (h1 : ∀ x ∈ A1, ∀ y ∈ B2, key x ≤ key y) (h2 : ∀ x ∈ A2, ∀ y ∈ B1, key y < key x)
    (s1 : Sorts key (A1 ++ B1) M1) (s2 : Sorts key (A2 ++ B2) M2) : Sorts key ((A1 ++ A2) ++ (B1 ++ B2)) (M1 ++ M2) := by
  have pA := List.pairwise_append.1 hA
  have pB := List.pairwise_append.1 hB
  refine ⟨s1.1.app s2.1 fun x hx y hy => ?_, ?_⟩
  · rcases List.mem_append.1 (s1.2.symm.mem hx) with hx | hx <;> rcases List.mem_append.1 (s2.2.symm.mem hy) with hy | hy
    · exact pA.2.2 x hx y hy
    · exact h1 x hx y hy
    · exact Int.le_of_lt (h2 y hy x hx)
    · exact pB.2.2 x hx y hy
  · have e : Sam key ((A1 ++ A2) ++ (B1 ++ B2)) ((A1 ++ B1) ++ (A2 ++ B2)) := by
      have := (Sam.refl (key := key) A1).app ((Sam.swap (key := key) (A := A2) (B := B1) (fun x hx y hy => by have := h2 x hx y hy; omega)).app (Sam.refl (key := key) B2))
      simpa [List.append_assoc] using this
    exact e.trans (s1.2.app s2.2)
theorem merge_one (hB : Srt key (B1 ++ B2)) (h1 : ∀ y ∈ B1, key y < key x) (h2 : ∀ y ∈ B2, key x ≤ key y) : Sorts key ([x] ++ (B1 ++ B2)) (B1 ++ ([x] ++ B2)) := by
  have pB := List.pairwise_append.1 hB
  refine ⟨?_, ?_⟩
  · refine Srt.app pB.1 (List.pairwise_cons.2 ⟨h2, pB.2.1⟩) fun y hy z hz => ?_
    rcases List.mem_cons.1 hz with rfl | hz
    · exact Int.le_of_lt (h1 y hy)
    · exact pB.2.2 y hy z hz
  · have := (Sam.swap (key := key) (A := [x]) (B := B1) (fun z hz y hy => by simp at hz; subst hz; have := h1 y hy; omega)).app (Sam.refl (key := key) B2)
    simpa [List.append_assoc] using this
theorem merge_last (hA : Srt key (A1 ++ A2)) (h1 : ∀ y ∈ A1, key y ≤ key x) (h2 : ∀ y ∈ A2, key x < key y) : Sorts key ((A1 ++ A2) ++ [x]) (A1 ++ ([x] ++ A2)) := by
  have pA := List.pairwise_append.1 hA
  refine ⟨?_, ?_⟩
  · refine Srt.app pA.1 (List.pairwise_cons.2 ⟨fun y hy => Int.le_of_lt (h2 y hy), pA.2.1⟩) fun y hy z hz => ?_
    rcases List.mem_cons.1 hz with rfl | hz
    · exact h1 y hy
    · exact pA.2.2 y hy z hz
  · have := (Sam.refl (key := key) A1).app (Sam.swap (key := key) (A := A2) (B := [x]) (fun z hz y hy => by simp at hy; subst hy; have := h2 z hz; omega))
    simpa [List.append_assoc] using this
end
section
variable {α : Type} [Inhabited α]
theorem get_of {d : Array α} {l : List α} {i : Nat} {x : α} (h : d.toList = l) (hx : l[i]? = some x) : d[i]! = x := by
  rw [← h, Array.getElem?_toList] at hx
  simp [Array.getElem!_eq_getD, Array.getD_eq_getD_getElem?, hx]
/-- Two places exchanged, by lists. -/
theorem swp_list {d : Array α} {X Z Y : List α} {x y : α} (h : d.toList = X ++ (x :: (Z ++ (y :: Y)))) (i j : Nat) (hi : i = X.length) (hj : j = X.length + 1 + Z.length) : (swp d i j).toList = X ++ (y :: (Z ++ (x :: Y))) := by
  have ex : d[i]! = x := get_of h (by subst hi; simp)
  have ey : d[j]! = y := get_of h (by subst hj; rw [List.getElem?_append_right (by omega), show X.length + 1 + Z.length - X.length = Z.length + 1 by omega, List.getElem?_cons_succ, List.getElem?_append_right (by omega)]; simp)
  unfold swp
  rw [ex, ey, Array.toList_setIfInBounds, Array.toList_setIfInBounds, h]
  subst hi hj
  rw [List.set_append_right _ _ (by omega), Nat.sub_self, List.set_cons_zero, List.set_append_right _ _ (by omega), show X.length + 1 + Z.length - X.length = Z.length + 1 by omega, List.set_cons_succ, List.set_append_right _ _ (by omega), Nat.sub_self, List.set_cons_zero]
end
theorem size_of {α : Type} {d : Array α} {l : List α} (h : d.toList = l) : d.size = l.length := by rw [← h, Array.length_toList]
end Go.Proofs.YtmmcoedgoekhgaaGreatDoor
