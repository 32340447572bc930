import Derived.Test.YtdffmmiegpndkaaGreatDoorWNum
import Derived.Test.YtdffmmiegpndkaaGreatDoorShelfS
import Derived.Deep.MidRow
/-
  A log's segments: one more is appended, one is stored anew.
-/
namespace Go.Proofs.YtdffmmiegpndkaaGreatDoor
open Go.RowKit Go.Maps
set_option linter.unusedVariables false
theorem infoS : (Tryz.prog.info? 66).map (fun i => (i.zero, i.size, i.bytes)) = some (some (.agg #[.int .i64 0, .int .i64 0, .int .i64 0]), 3, 24) := by kernel_rfl
theorem one_seg (s : ASeg) : ∀ u ∈ s.cs, u.oneCell' = true := by
  intro u hu
  simp [ASeg.cs] at hu
  rcases hu with rfl | rfl | rfl <;> rfl
theorem one_segs (gs : List ASeg) : ∀ u ∈ cellsG gs, u.oneCell' = true := by
  intro u hu
  obtain ⟨s, _, hs⟩ := List.mem_flatMap.1 hu
  exact one_seg s u hs
theorem size_setCells (b : Nat) : ∀ (vs : List Value) (o : Nat) (w : World), (w.setCells b o vs).heap.size = w.heap.size
  | [], _, _ => rfl
  | v :: r, o, w => by rw [World.setCells, size_setCells b r (o + 1)]; simp [World.setCell]
theorem tape_setCells (b : Nat) : ∀ (vs : List Value) (o : Nat) (w : World), (w.setCells b o vs).tape = w.tape
  | [], _, _ => rfl
  | v :: r, o, w => by rw [World.setCells, tape_setCells b r (o + 1)]; rfl
theorem grown_row (w : World) (gs : List ASeg) (cp : Nat) (hge : gs.length ≤ cp) :
    SegRow (w.alloc (.cells ((cellsG gs).toArray ++ Builtin.zeroCells (Value.agg #[.int .i64 0, .int .i64 0, .int .i64 0]).cells (cp - gs.length)) 66)) (.slice (some ⟨w.heap.size, 0, none⟩) gs.length cp) gs (some w.heap.size) := by
  have hz : (Value.agg #[.int .i64 0, .int .i64 0, .int .i64 0]).cells.size = 3 := rfl
  have hsz : ((cellsG gs).toArray ++ Builtin.zeroCells (Value.agg #[.int .i64 0, .int .i64 0, .int .i64 0]).cells (cp - gs.length)).size = 3 * cp := by
    rw [Array.size_append, List.size_toArray, cellsG_length, size_zeroCells, hz]; omega
  generalize hcs : (cellsG gs).toArray ++ Builtin.zeroCells (Value.agg #[.int .i64 0, .int .i64 0, .int .i64 0]).cells (cp - gs.length) = cs at hsz ⊢
  have hH := heap_alloc_new w (.cells cs 66)
  refine ⟨_, _, rfl, hge, .inr ⟨_, 0, rfl, rfl, by simp, fun j hj => ?_, fun j hj => ?_, fun j => frozen_of_row _ _ j _ _ hH⟩⟩
  · rw [Nat.zero_add, cell_of_row _ _ j _ _ (0, 0) hH, ← hcs, Array.getElem?_append_left (by rw [List.size_toArray, cellsG_length]; exact hj), List.getElem?_toArray]
  · rw [Nat.zero_add, cell_of_row _ _ j _ _ (0, 0) hH, Array.getElem?_eq_getElem (by omega)]
    rfl
/-- append(v, x): one segment more. -/
theorem app_seg {w w1 : World} {v : Value} {gs : List ASeg} {r : Option Nat} (h : SegRow w v gs r) (hn : gs.length ≤ 10000000) (x : ASeg) (ty : TypeId) (hw1 : w.alloc (.cells x.cs.toArray 66) = w1) {g1 : Nat} (hg1 : w.heap.size = g1) :
    ∃ v' r' w', (Builtin.append_ #[55, 55] ty #[v, .slice (some ⟨g1, 0, none⟩) 1 1]).run Tryz.prog w1 = .ok v' w' ∧ SegRow w' v' (gs ++ [x]) r' ∧ Turn (fun b => r = some b) w w' ∧ (∀ b, r' = some b → r = some b ∨ w.heap.size ≤ b) := by
  obtain ⟨i, hi, hz0, hz1, hz2⟩ := info_parts infoS
  have hb1 : Below w.heap.size w w1 := by rw [← hw1]; exact (Below.refl _ _).alloc (Nat.le_refl _) _
  have hsrc : Src Tryz.prog i.size 55 (.slice (some ⟨g1, 0, none⟩) 1 1) 1 x.cs w1 := Src.ofSlice w1 Tryz.underlying55 ⟨g1, 0, none⟩ 1 1 x.cs (by rw [hz1]; rfl) (fun j u hu => by
    rw [← hw1, ← hg1]
    exact World.news_of_block (heap_alloc_new w _) j u (by simpa using hu)) (one_seg x)
  have hs1 := h.same (fun b hb => hb1.block b (h.lt b hb))
  have hcl : x.cs.length = 3 := rfl
  obtain ⟨ad, cap, rfl, hlc, hf⟩ := hs1
  rcases hf with ⟨rfl, rfl, rfl⟩ | ⟨b, off, rfl, rfl, hbl, hc, hs, hfz⟩
  · have h0 : gs = [] := List.length_eq_zero_iff.1 (by omega)
    subst h0
    have hr := run_append_grow_src w1 55 55 ty 66 i _ Tryz.underlying55 hi hz0 none 0 0 [] (run_firstCells_none _ _ _ _ _) _ 1 x.cs hsrc (by omega) (by decide) (by rw [hz2]; decide)
    have hg := grown_row w1.drew [x] (grownCap w1 (0 + 1) 0 66) (grownCap_ge w1 (0 + 1) 0 66)
    have e : cellsG [x] = [] ++ x.cs := by simp [cellsG]
    rw [e] at hg
    refine ⟨_, some w1.heap.size, _, hr, hg, ?_, fun b hb => ?_⟩
    · refine Turn.of_below ?_ _
      exact hb1.trans (((Below.refl _ w1).drew.alloc (Nat.le_refl _) _).mono hb1.size)
    · cases hb
      exact .inr hb1.size
  · by_cases hroom : gs.length + 1 ≤ cap
    · have hr := run_append_room_src w1 55 55 ty 66 i Tryz.underlying55 hi b off gs.length cap _ 1 x.cs hsrc hroom
        (fun j hj => by rw [hz1, Nat.add_assoc]; exact hs _ (by rw [hcl] at hj; omega)) (fun j hj => hfz _)
      refine ⟨_, some b, _, hr, ⟨⟨_, cap, ?_, ?_, .inr ⟨b, off, rfl, rfl, ?_, fun j hj => ?_, fun j hj => ?_, fun j => ?_⟩⟩⟩, ?_, fun b' hb' => .inl hb'⟩
      · rw [List.length_append]; rfl
      · rw [List.length_append]; exact hroom
      · rw [size_setCells]; exact hbl
      · rw [List.length_append, List.length_singleton] at hj
        rw [cellsG_append, hz1]
        by_cases hj2 : j < 3 * gs.length
        · rw [World.cell?_setCells_out b _ _ _ _ (fun _ _ => .inl (by show off + j < off + gs.length * 3; omega)), List.getElem?_append_left (by rw [cellsG_length]; exact hj2)]
          exact hc j hj2
        · have hin := World.cell?_setCells_in b x.cs (off + gs.length * 3) w1 (fun k hk => by rw [Nat.add_assoc]; exact hs _ (by rw [hcl] at hk; omega)) (j - 3 * gs.length) (by rw [hcl]; omega)
          rw [show off + gs.length * 3 + (j - 3 * gs.length) = off + j by omega] at hin
          rw [hin, List.getElem?_append_right (by rw [cellsG_length]; omega), cellsG_length, ← List.getElem?_eq_getElem]
          simp [cellsG]
      · exact World.isSome_setCells b _ _ _ _ (hs j hj)
      · rw [World.frozen?_setCells]; exact hfz j
      · refine ⟨?_, ?_, ?_, ?_, fun k hk hne => ?_⟩
        · rw [World.os_setCells]; exact hb1.os
        · rw [tape_setCells]; exact hb1.tape
        · rw [World.output_setCells]; exact hb1.output
        · rw [size_setCells]; exact hb1.size
        · rw [World.heap_setCells_other w1 b _ _ (Nat.lt_of_lt_of_le hk hb1.size) (fun e => hne (by rw [e]))]
          exact hb1.block k hk
    · have hcg : cap = gs.length := by omega
      have hr := run_append_grow_src w1 55 55 ty 66 i _ Tryz.underlying55 hi hz0 (some ⟨b, off, none⟩) gs.length cap (cellsG gs)
        (run_firstCells_some _ _ _ _ _ _ _ (by rw [cellsG_length, hz1]; omega) (fun j u hu => by
          have hj : j < 3 * gs.length := by rw [← cellsG_length]; exact (List.getElem?_eq_some_iff.1 hu).1
          have := hc j hj
          rw [hu] at this
          show w1.cell? _ = _
          simpa [Addr.add_lit] using this)) _ 1 x.cs hsrc (by omega) (by omega) (by
            have := nextslicecap_le (need := gs.length + 1) (old := cap) (by omega)
            rw [hz2]; omega)
      have hg := grown_row w1.drew (gs ++ [x]) (grownCap w1 (gs.length + 1) cap 66) (by rw [List.length_append]; exact grownCap_ge w1 _ _ _)
      rw [cellsG_append, List.length_append] at hg
      have e : cellsG [x] = x.cs := by simp [cellsG]
      rw [e] at hg
      refine ⟨_, some w1.heap.size, _, hr, hg, ?_, fun b' hb' => ?_⟩
      · refine Turn.of_below ?_ _
        exact hb1.trans (((Below.refl _ w1).drew.alloc (Nat.le_refl _) _).mono hb1.size)
      · cases hb'
        exact .inr hb1.size
end Go.Proofs.YtdffmmiegpndkaaGreatDoor
/-
  The segments that were found, sorted by their numbers.
-/
namespace Go.Proofs.YtdffmmiegpndkaaGreatDoor
open Go.RowKit Go.Maps Go.Sort
set_option linter.unusedVariables false
def seg0 (n : Int) : ASeg := ⟨n, 0, 0⟩
def encN (n : Int) : List Value := [.int .i64 n, .int .i64 0, .int .i64 0]
set_option maxHeartbeats 1000000 in
theorem cmp_any (x y : Int) (w : World) : Calls Tryz.prog 59 #[.agg #[.int .i64 x, .int .i64 0, .int .i64 0], .agg #[.int .i64 y, .int .i64 0, .int .i64 0]] w fun e w' => e = .returned (.int .i64 (Lib.compareInt x y)) ∧ ∃ q os', w' = Sort.grow (w.drewN q) os' := by
  have hcon := fun W' => AnyG.cmp_Compare_int Tryz.cmpInt x y W'
  change ∀ W', Calls Tryz.prog 60 _ _ _ at hcon
  generalize Lib.compareInt x y = r at hcon ⊢
  go_enter Tryz.func59, Tryz.ntmps59
  go_wp2_with (go_at_call 60; refine (hcon _).mono ?_; rintro e w' ⟨rfl, rfl⟩)
  go_ret
  exact ⟨rfl, 0, _, by rw [Sort.alloc_eq_grow, Sort.alloc_eq_grow, Sort.grow_grow]; rfl⟩
theorem ltN (x y : Int) : ltOf Lib.compareInt x y = decide (x < y) := by
  unfold ltOf Lib.compareInt
  by_cases h1 : x < y
  · simp [h1]
  · by_cases h2 : y < x <;> simp [h1, h2]
theorem swoN : Sort.SWO (ltOf Lib.compareInt) where
  irrefl x := by rw [ltN]; simp
  trans x y z h1 h2 := by rw [ltN] at *; simp at *; omega
  ntrans x y z h1 h2 := by rw [ltN] at *; simp at *; omega
theorem flat_seg (ns : List Int) (t : Nat) (ht : t < 3 * ns.length) : some (flatK encN 3 ns.toArray)[t]! = (cellsG (ns.map seg0))[t]? := by
  have h3 : t / 3 < ns.length := by omega
  rw [get_flatK _ _ _ t (by rw [List.size_toArray]; omega), ← List.getElem?_toArray]
  have e : t = 3 * (t / 3) + t % 3 := by omega
  have hg := cellsG_get (ns.map seg0) (t / 3) (by rw [List.length_map]; exact h3) (t % 3) (by omega)
  rw [List.getElem?_toArray]
  conv => rhs; rw [e]
  rw [hg]
  have hx : ns.toArray[t / 3]! = ns[t / 3] := by rw [getElem!_pos _ _ (by rw [List.size_toArray]; exact h3)]; rfl
  have hy : (ns.map seg0)[t / 3]'(by rw [List.length_map]; exact h3) = seg0 ns[t / 3] := by rw [List.getElem_map]
  rw [hx, hy]
  show some (encN ns[t / 3])[t % 3]! = (encN ns[t / 3])[t % 3]?
  have : t % 3 < (encN ns[t / 3]).length := by show t % 3 < 3; omega
  rw [List.getElem?_eq_getElem this]
  exact congrArg some (getElem!_pos (encN ns[t / 3]) (t % 3) this)
theorem holds_seg {w : World} {b off : Nat} (ns : List Int) (hc : ∀ j, j < 3 * ns.length → w.cell? ⟨b, off + j, none⟩ = (cellsG (ns.map seg0))[j]?) (hf : ∀ j, w.frozen? ⟨b, j, none⟩ = false) : HoldsK encN 3 w b off ns.toArray := by
  intro t ht
  rw [size_flatK, List.size_toArray] at ht
  exact ⟨by rw [hc t (by omega), ← flat_seg ns t (by omega)]; rfl, hf _⟩
def sortN (ns : List Int) : List Int := ns.mergeSort fun x y => decide (x ≤ y)
theorem sortN_length (ns : List Int) : (sortN ns).length = ns.length := List.length_mergeSort _
theorem Lies.logAt {B : Nat} {w : World} {L : List Item} {i l p : Nat} {g : AL} (h : Lies B w L) (hi : L[i]? = some (.log l p g)) : ∃ v r, LogAt w l p g v r ∧ B ≤ l := by
  obtain ⟨S, ⟨v, r, hat, hS⟩, hB⟩ := h.get hi
  exact ⟨v, r, hat, hB l ((hS l).2 (.inl rfl))⟩
/-- A new row of segments, stored into the log. -/
theorem Lies.newSegs {B : Nat} {w : World} {L : List Item} {i l p : Nat} {g : AL} (h : Lies B w L) (hi : L[i]? = some (.log l p g)) : ∃ v r, LogAt w l p g v r ∧ B ≤ l ∧
    (∀ (w2 : World) (v' : Value) (r' : Option Nat) (gs' : List ASeg), SegRow w2 v' gs' r' → Turn (fun b => r = some b) w w2 → (∀ b, r' = some b → r = some b ∨ w.heap.size ≤ b) →
      w2.cell? ⟨l, 3, none⟩ = some v ∧ w2.frozen? ⟨l, 3, none⟩ = false ∧ Lies B (w2.setCell ⟨l, 3, none⟩ v') (L.set i (.log l p { g with segs := gs' })) ∧ Below B w (w2.setCell ⟨l, 3, none⟩ v')) ∧
    (∀ (w2 : World) (gs' : List ASeg), SegRow w2 v gs' r → Turn (fun b => r = some b) w w2 → Lies B w2 (L.set i (.log l p { g with segs := gs' })) ∧ Below B w w2) := by
  obtain ⟨S, ⟨v, r, hat, hS⟩, hB, _, hu⟩ := h.upd hi
  refine ⟨v, r, hat, hB l ((hS l).2 (.inl rfl)), fun w2 v' r' gs' hrow ht hown => ?_, fun w2 gs' hrow ht => ?_⟩
  · have hl : w2.heap[l]? = w.heap[l]? := ht.block l (lt_of_some hat.cells) hat.ne
    have hne : r' ≠ some l := fun e => by
      rcases hown l e with x | x
      · exact hat.ne x
      · have := lt_of_some hat.cells; omega
    have hat2 : w2.heap[l]? = some (.cells (logCs p v g) 57 (0, 0)) := hl.trans hat.cells
    have h1 := heap_setCell_same w2 l 3 _ _ v' hat2
    have h2 : ∀ b, b ≠ l → (w2.setCell ⟨l, 3, none⟩ v').heap[b]? = w2.heap[b]? := fun b hb => Below.heap_setCell w2 ⟨l, 3, none⟩ v' b hb
    refine ⟨by rw [cell_of_row w2 l 3 _ _ (0, 0) hat2]; rfl, frozen_of_row w2 l 3 _ _ hat2, hu _ (.log l p { g with segs := gs' }) (logFoot l r') ⟨v', r', ⟨h1, hrow.same (fun b hb => h2 b (fun e => hne (by rw [hb, e]))), hne⟩, fun _ => Iff.rfl⟩ ⟨⟨ht.os, ht.tape, ht.output, ?_, fun b hb hn => ?_⟩, fun b hb => ?_⟩⟩
    · exact Nat.le_trans ht.size (by simp [World.setCell])
    · rw [h2 b (fun e => hn ((hS b).2 (.inl e)))]
      exact ht.block b hb (fun e => hn ((hS b).2 (.inr e)))
    · rcases hb with rfl | hb
      · exact .inl ((hS _).2 (.inl rfl))
      · rcases hown b hb with x | x
        · exact .inl ((hS _).2 (.inr x))
        · exact .inr x
  · have hl : w2.heap[l]? = w.heap[l]? := ht.block l (lt_of_some hat.cells) hat.ne
    exact hu _ (.log l p { g with segs := gs' }) S ⟨v, r, ⟨hl.trans hat.cells, hrow, hat.ne⟩, hS⟩ ⟨⟨ht.os, ht.tape, ht.output, ht.size, fun b hb hn => ht.block b hb (fun e => hn ((hS b).2 (.inr e)))⟩, fun b hb => .inl hb⟩
/-- slices.SortFunc of what was found. -/
theorem sort_any {B : Nat} {w : World} {L : List Item} {i l p : Nat} {g : AL} (h : Lies B w L) (hi : L[i]? = some (.log l p g)) (ns : List Int) (hns : g.segs = ns.map seg0) (hn : ns.length ≤ 1000) {v : Value} (hv : w.cell? ⟨l, 3, none⟩ = some v) :
    Calls Tryz.prog 58 #[v, .func (.func 59) #[] #[]] w fun e w' => e = .returned (.tuple #[]) ∧ Lies B w' (L.set i (.log l p { g with segs := (sortN ns).map seg0 })) ∧ Below B w w' := by
  obtain ⟨v', r, hat, hB, _, hu⟩ := h.newSegs hi
  have e := hat.c3
  rw [hv] at e
  cases e
  obtain ⟨ad, cap, hvv, hlc, hf⟩ := hat.row
  have hlen : g.segs.length = ns.length := by rw [hns, List.length_map]
  rw [hlen] at hvv hlc
  by_cases h0 : ns = []
  · subst h0
    rw [hvv]
    refine (AnyF.slices_SortFunc_none Tryz.sortSeg ad cap _ w).mono ?_
    rintro e w' ⟨rfl, rfl⟩
    refine ⟨rfl, hu w' _ ?_ (Turn.refl _ _)⟩
    have : (sortN []).map seg0 = g.segs := by rw [hns]; simp [sortN]
    rw [this]
    exact hat.row
  · rcases hf with ⟨_, hc0, _⟩ | ⟨b, off, had, hr, hbl, hc, hs, hfz⟩
    · exact absurd (List.length_eq_zero_iff.1 (by omega)) h0
    · have hH := holds_seg (w := w) (b := b) (off := off) ns (fun j hj => by rw [hc j (by rw [hlen]; exact hj), hns]) hfz
      have eg : ∀ args w, (callFunc 59 args).run Tryz.prog w = .ok (.enter 59 args) w := enters_of Tryz.func59 (by kernel_rfl) rfl
      have hcon := AnyQ.slices_SortFunc_total Tryz.sortSeg 3 Tryz.isAgg66 Tryz.sizeOf66 encN (fun _ => rfl) (fun x u hu => by simp [encN] at hu; rcases hu with rfl | rfl <;> rfl) Lib.compareInt swoN 59 #[] b off cap ns.toArray w eg (fun _ _ _ _ x y => cmp_any x y _) hH hbl (by rw [List.size_toArray]; omega) (fun x y h1 h2 => by rw [ltN] at h1 h2; simp at h1 h2; omega)
      rw [List.size_toArray, ← had, ← hvv] at hcon
      refine hcon.mono ?_
      rintro e w' ⟨rfl, n, os, rfl⟩
      have es : (ns.toArray.toList.mergeSort fun x y => !ltOf Lib.compareInt y x) = sortN ns := by
        unfold sortN
        congr 1
        funext x y
        rw [ltN]
        by_cases hxy : x ≤ y
        · simp [hxy]
        · simp [hxy]; omega
      rw [es]
      have hsz : (sortN ns).toArray.size = ns.toArray.size := by rw [List.size_toArray, List.size_toArray, sortN_length]
      have hH2 := holdsK_sortWorldK encN 3 w b off n ns.toArray (sortN ns).toArray os hbl hH hsz
      have hblk : ∀ k, k < w.heap.size → k ≠ b → (sortWorldK encN 3 w b off n (sortN ns).toArray os).heap[k]? = w.heap[k]? := fun k hk hne => by
        unfold sortWorldK
        rw [heap_grow_old _ _ (by unfold putRowK; rw [size_putRow]; exact hk)]
        unfold putRowK putRow mapBlock
        show (Array.modify _ b _)[k]? = _
        rw [Array.getElem?_modify, if_neg (fun e => hne e.symm)]
        rfl
      refine ⟨rfl, hu _ _ ⟨ad, cap, ?_, ?_, .inr ⟨b, off, had, hr, lt_sortWorldK encN 3 w b off n _ os hbl, fun j hj => ?_, fun j hj => ?_, fun j => ?_⟩⟩ ⟨rfl, rfl, rfl, size_sortWorldK_c encN 3 w b off n _ os, fun k hk hne => hblk k hk (fun e => hne (by rw [hr, e]))⟩⟩
      · rw [hvv, List.length_map, sortN_length]
      · rw [List.length_map, sortN_length]; exact hlc
      · rw [List.length_map, sortN_length] at hj
        have := (hH2 j (by rw [size_flatK, hsz, List.size_toArray]; omega)).1
        rw [this, ← flat_seg _ j (by rw [sortN_length]; exact hj)]
        rfl
      · by_cases hj2 : j < 3 * ns.length
        · rw [(hH2 j (by rw [size_flatK, hsz, List.size_toArray]; omega)).1]; rfl
        · unfold sortWorldK
          rw [cell?_grow _ _ _ (by unfold putRowK; rw [size_putRow]; exact hbl)]
          unfold putRowK
          rw [cell?_putRow_other _ _ _ _ _ _ (.inr (.inr (by rw [size_flatK, hsz, List.size_toArray]; show off + ns.length * 3 ≤ off + j; omega)))]
          exact hs j hj
      · unfold sortWorldK
        rw [frozen?_grow _ _ _ (by unfold putRowK; rw [size_putRow]; exact hbl)]
        unfold putRowK
        rw [frozen?_putRow]
        exact hfz j
end Go.Proofs.YtdffmmiegpndkaaGreatDoor
