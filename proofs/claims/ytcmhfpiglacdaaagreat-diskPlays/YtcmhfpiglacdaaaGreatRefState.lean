/-
  The document's disk: its struct; Off, Arm, Fall, refused, New.
-/
import Derived.Test.YtcmhfpiglacdaaaGreatRefPutW
namespace Go.Proofs.YtcmhfpiglacdaaaGreat
open Go.RowKit Go.Maps Go.WideMaps
set_option linter.unusedVariables false
set_option linter.unusedSimpArgs false
structure RS where
  cap : Int
  ad : Option Addr
  n : Nat
  c : Nat
  arm : Int
  what : Int
  fall : Int
  off : Bool
  opn : Bool
def RS.cs (s : RS) : Array Value := #[.int .i64 s.cap, .slice s.ad s.n s.c, .int .i64 s.arm, .int .i64 s.what, .int .i64 s.fall, .bool s.off, .bool s.opn]
def RC (w : World) (r : Nat) (s : RS) : Prop := w.heap[r]? = some (.cells s.cs 45 (0, 0))
/-- What the struct says of the power. -/
structure RPow (s : RS) (P : AP) : Prop where
  arm : s.arm = P.arm
  fall : s.fall = P.fall
  off : s.off = P.off
  opn : s.opn = P.opn
  what : 0 < P.arm → s.what = P.what
structure RRel (s : RS) (xs : List RF) (A : AD) : Prop where
  n : s.n = xs.length
  cap : s.cap = A.cap
  pow : RPow s A.pow
  fs : A.fs = xs.map RF.abs
  ds : ∀ x ∈ xs, x.ds = dirtyI x.abs.2
def uses (ad : Option Addr) (xs : List RF) (b : Nat) : Prop := (xs ≠ [] ∧ ∃ o, ad = some ⟨b, o, none⟩) ∨ ∃ x ∈ xs, x.ds ≠ [] ∧ ∃ o, x.ad = some ⟨b, o, none⟩
structure RefAt (w : World) (r : Nat) (s : RS) (xs : List RF) (S : Nat → Prop) : Prop where
  cells : RC w r s
  files : Files w s.ad xs
  lt : ∀ b, S b → b < w.heap.size
  self : S r
  use : ∀ b, uses s.ad xs b → S b ∧ b ≠ r
theorem RowAt.keep {w w' : World} {ad : Option Addr} {xs : List Value} (h : RowAt w ad xs) (hs : w.heap.size ≤ w'.heap.size) (he : xs ≠ [] → ∀ b o, ad = some ⟨b, o, none⟩ → w'.heap[b]? = w.heap[b]?) : RowAt w' ad xs := by
  by_cases hx : xs = []
  · exact .inl hx
  · rcases h with h | ⟨b, o, ha, hl, hc⟩
    · exact absurd h hx
    · exact .inr ⟨b, o, ha, Nat.lt_of_lt_of_le hl hs, fun i hi => by rw [← hc i hi]; exact World.cell?_of_block (he hx b o ha)⟩
theorem cellsF_nil {xs : List RF} (h : cellsF xs ≠ []) : xs ≠ [] := fun e => h (by rw [e]; rfl)
theorem Files.keep {w w' : World} {ad : Option Addr} {xs : List RF} (h : Files w ad xs) (hs : w.heap.size ≤ w'.heap.size) (he : ∀ b, uses ad xs b → w'.heap[b]? = w.heap[b]?) : Files w' ad xs :=
  ⟨h.row.keep hs (fun hx b o ha => he b (.inl ⟨cellsF_nil hx, o, ha⟩)), fun x hx => (h.dirty x hx).keep hs (fun hd b o ha => he b (.inr ⟨x, hx, fun e => hd (by rw [e]; rfl), o, ha⟩))⟩
section
variable {w w' : World} {r : Nat} {s : RS} {xs : List RF} {S : Nat → Prop} {A : AD}
theorem lt_heap {w' : World} {b : Nat} {o : Option Obj} (h : w'.heap[b]? = o) (ho : o ≠ none) : b < w'.heap.size := by
  rcases Nat.lt_or_ge b w'.heap.size with hl | hl
  · exact hl
  · rw [Array.getElem?_eq_none hl] at h; exact absurd h.symm ho
theorem files_same (h : Files w s.ad xs) (he : ∀ b, uses s.ad xs b → w'.heap[b]? = w.heap[b]?) : Files w' s.ad xs := by
  have row : ∀ {ad : Option Addr} {l : List Value}, RowAt w ad l → (l ≠ [] → ∀ b o, ad = some ⟨b, o, none⟩ → w'.heap[b]? = w.heap[b]?) → RowAt w' ad l := by
    intro ad l hr hh
    by_cases hx : l = []
    · exact .inl hx
    · rcases hr with hr | ⟨b, o, ha, hl, hc⟩
      · exact absurd hr hx
      · have e := hh hx b o ha
        exact .inr ⟨b, o, ha, lt_heap e (by rw [Array.getElem?_eq_getElem hl]; simp), fun i hi => by rw [← hc i hi]; exact World.cell?_of_block e⟩
  exact ⟨row h.row (fun hx b o ha => he b (.inl ⟨cellsF_nil hx, o, ha⟩)), fun x hx => row (h.dirty x hx) (fun hd b o ha => he b (.inr ⟨x, hx, fun e => hd (by rw [e]; rfl), o, ha⟩))⟩
theorem RefAt.same (h : RefAt w r s xs S) (he : ∀ b, S b → w'.heap[b]? = w.heap[b]?) : RefAt w' r s xs S := by
  refine ⟨?_, files_same h.files (fun b hb => he b (h.use b hb).1), fun b hb => ?_, h.self, h.use⟩
  · unfold RC; rw [he r h.self]; exact h.cells
  · have hl := h.lt b hb
    exact lt_heap (he b hb) (by rw [Array.getElem?_eq_getElem hl]; simp)
theorem RefAt.c (h : RefAt w r s xs S) (j : Nat) : w.cell? ⟨r, j, none⟩ = s.cs[j]? := cell_of_row w r j _ _ (0, 0) h.cells
theorem RefAt.fz (h : RefAt w r s xs S) (j : Nat) : w.frozen? ⟨r, j, none⟩ = false := frozen_of_row w r j _ _ h.cells
/-- A field is turned (not the list). -/
theorem RefAt.field (h : RefAt w r s xs S) (j : Nat) (v : Value) (s' : RS) (hs : s.cs.setIfInBounds j v = s'.cs) (ha : s'.ad = s.ad) : RefAt (w.setCell ⟨r, j, none⟩ v) r s' xs S ∧ Turn (fun b => b = r) w (w.setCell ⟨r, j, none⟩ v) := by
  have ht := Turn.setCell w ⟨r, j, none⟩ v
  refine ⟨⟨?_, ?_, fun b hb => Nat.lt_of_lt_of_le (h.lt b hb) ht.size, h.self, by rw [ha]; exact h.use⟩, ht⟩
  · unfold RC; rw [heap_setCell_same w r j _ _ _ h.cells, hs]
  · rw [ha]
    exact files_same h.files (fun b hb => ht.block b (h.lt b (h.use b hb).1) (h.use b hb).2)
/-- Another list. -/
theorem RefAt.list (h : RefAt w r s xs S) (w1 : World) (hb : Below w.heap.size w w1) {v : Value} {ys : List RF} (ho : w1.ownsRow w.heap.size 87 4 v ys.length (cellsF ys)) (hd : ∀ y ∈ ys, RowAt w1 y.ad (y.ds.map (Value.int .i64)))
    (hu : ∀ y ∈ ys, y.ds ≠ [] → ∀ b o, y.ad = some ⟨b, o, none⟩ → (S b ∧ b ≠ r) ∨ w.heap.size ≤ b) :
    ∃ ad c S', v = .slice ad ys.length c ∧ RefAt (w1.setCell ⟨r, 1, none⟩ v) r { s with ad := ad, n := ys.length, c := c } ys S' ∧ Step S S' w (w1.setCell ⟨r, 1, none⟩ v) := by
  obtain ⟨ad, c, rfl, hrow, _, hbase⟩ := own_at ho
  have hr := h.lt r h.self
  have ht := Turn.setCell w1 ⟨r, 1, none⟩ (.slice ad ys.length c)
  have hT : Turn S w (w1.setCell ⟨r, 1, none⟩ (.slice ad ys.length c)) := (Turn.of_below hb S).trans ht (fun b hb => .inl (by rw [hb]; exact h.self))
  have hdl : ∀ b, uses ad ys b → b < w1.heap.size := by
    rintro b (⟨hne, o, ha⟩ | ⟨y, hy, hds, o, ha⟩)
    · rcases hrow with h0 | ⟨b', o', ha', hl', _⟩
      · have := cellsF_length ys
        rw [h0] at this
        have h1 : ys.length ≠ 0 := fun e => hne (List.length_eq_zero_iff.1 e)
        simp at this
        omega
      · rw [ha] at ha'; cases ha'; exact hl'
    · rcases hd y hy with h0 | ⟨b', o', ha', hl', _⟩
      · exact absurd (List.map_eq_nil_iff.1 h0) hds
      · rw [ha] at ha'; cases ha'; exact hl'
  have hne : ∀ b, uses ad ys b → b ≠ r := by
    rintro b (⟨hne, o, ha⟩ | ⟨y, hy, hds, o, ha⟩)
    · have := hbase b o ha; omega
    · rcases hu y hy hds b o ha with ⟨_, h2⟩ | h2
      · exact h2
      · omega
  refine ⟨ad, c, fun b => b = r ∨ uses ad ys b, rfl, ⟨?_, ?_, ?_, .inl rfl, fun b hb => ⟨.inr hb, hne b hb⟩⟩, hT, ?_⟩
  · have hc1 : w1.heap[r]? = some (.cells s.cs 45 (0, 0)) := by rw [hb.block r hr]; exact h.cells
    unfold RC; rw [heap_setCell_same w1 r 1 _ _ _ hc1]; rfl
  · have hf : Files w1 ad ys := ⟨hrow, hd⟩
    exact files_same (s := { s with ad := ad }) hf (fun b hb => ht.block b (hdl b hb) (hne b hb))
  · rintro b (rfl | hb)
    · exact Nat.lt_of_lt_of_le hr hT.size
    · exact Nat.lt_of_lt_of_le (hdl b hb) ht.size
  · rintro b (rfl | hb)
    · exact .inl h.self
    · rcases hb with ⟨hne, o, ha⟩ | ⟨y, hy, hds, o, ha⟩
      · exact .inr (hbase b o ha)
      · rcases hu y hy hds b o ha with ⟨h2, _⟩ | h2
        · exact .inl h2
        · exact .inr h2
end
/-- The document's disk among the items. -/
def Item.ref (r : Nat) (A : AD) : Item := ⟨fun w S => ∃ s xs, RefAt w r s xs S ∧ RRel s xs A, fun w S ⟨s, xs, h, _⟩ => h.lt, fun w w' S ⟨s, xs, h, k⟩ e => ⟨s, xs, h.same e, k⟩⟩
section
variable {B : Nat} {w : World} {L : List Item} {i r : Nat} {A A' : AD} {f : Nat} {args : Array Value} {R : Ending → Prop}
theorem Lies.rcall (h : Lies B w L) (hi : L[i]? = some (.ref r A)) (hc : ∀ s xs S, RefAt w r s xs S → RRel s xs A → (∀ b, S b → B ≤ b) → Calls Tryz.prog f args w fun e w' => R e ∧ ∃ s' xs' S', RefAt w' r s' xs' S' ∧ RRel s' xs' A' ∧ Step S S' w w') :
    Calls Tryz.prog f args w fun e w' => R e ∧ Lies B w' (L.set i (.ref r A')) ∧ Below B w w' := by
  obtain ⟨S, ⟨s, xs, hr, hrel⟩, hB, _, hk⟩ := h.upd hi
  refine (hc s xs S hr hrel hB).mono ?_
  rintro e w' ⟨he, s', xs', S', hr', hrel', hs⟩
  exact ⟨he, hk w' _ S' ⟨s', xs', hr', hrel'⟩ hs⟩
theorem Lies.rask (h : Lies B w L) (hi : L[i]? = some (.ref r A)) (hc : ∀ s xs S, RefAt w r s xs S → RRel s xs A → Calls Tryz.prog f args w fun e w' => R e ∧ Below w.heap.size w w') :
    Calls Tryz.prog f args w fun e w' => R e ∧ Lies B w' L ∧ Below B w w' := by
  obtain ⟨S, ⟨s, xs, hr, hrel⟩, hB⟩ := h.get hi
  refine (hc s xs S hr hrel).mono ?_
  rintro e w' ⟨he, hb⟩
  exact ⟨he, h.below hb, hb.mono h.base⟩
theorem Lies.rtold {e : TypeId} {xs : List Value} (h : Lies B w L) (hi : L[i]? = some (.ref r A)) (hc : ∀ s ys S, RefAt w r s ys S → RRel s ys A → Calls Tryz.prog f args w fun en w' => ∃ v, en = .returned v ∧ w'.ownsRow w.heap.size e 1 v xs.length xs ∧ Below w.heap.size w w') :
    Calls Tryz.prog f args w fun en w' => ∃ v, en = .returned v ∧ w'.ownsRow 0 e 1 v xs.length xs ∧ Lies B w' (L ++ [.row e v xs]) ∧ Below B w w' := by
  obtain ⟨S, ⟨s, ys, hr, hrel⟩, hB⟩ := h.get hi
  refine (hc s ys S hr hrel).mono ?_
  rintro en w' ⟨v, rfl, ho, hb⟩
  have h0 : w'.ownsRow 0 e 1 v xs.length xs := ⟨ho.1, by
    rcases ho.2 with h | ⟨g, c, cur, h1, h2, rest⟩
    · exact .inl h
    · exact .inr ⟨g, c, cur, h1, Nat.zero_le _, rest⟩⟩
  exact ⟨v, rfl, h0, h.push (it := .row e v xs) (S' := fun b => v.ownBlock = some b) hb ⟨h0, fun _ => Iff.rfl⟩ (fun b hb' => (World.ownsRow.lt ho b hb').1), hb.mono h.base⟩
end
end Go.Proofs.YtcmhfpiglacdaaaGreat
