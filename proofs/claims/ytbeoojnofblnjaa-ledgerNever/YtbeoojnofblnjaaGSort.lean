/-
  The stable sort of a list of open adds of one's own.
-/
import Derived.Test.YtbeoojnofblnjaaGSta
import Derived.Sort.OwnSorted
namespace Go.Proofs.Ytbeoojnofblnjaa
open Go.RowKit S Go.Shelf Go.Sort
set_option linter.unusedVariables false
set_option linter.unusedSimpArgs false
/-- One more, by ID, behind those of the same ID. -/
def placeP (l : List Pen) (p : Pen) : List Pen := l.takeWhile (fun q => decide (q.id ≤ p.id)) ++ p :: l.dropWhile (fun q => decide (q.id ≤ p.id))
def sortP (l : List Pen) : List Pen := l.foldl placeP []
theorem mem_tw {α : Type} {p : α → Bool} {x : α} : ∀ {l : List α}, x ∈ l.takeWhile p → p x = true
  | [], h => by cases h
  | y :: l, h => by
    rw [List.takeWhile_cons] at h
    split at h
    · rcases List.mem_cons.1 h with rfl | h
      · assumption
      · exact mem_tw h
    · cases h
theorem place_sorts {l : List Pen} {p : Pen} (h : Srt keyP l) : Sorts keyP (l ++ [p]) (placeP l p) := by
  have e : l = l.takeWhile (fun q => decide (q.id ≤ p.id)) ++ l.dropWhile (fun q => decide (q.id ≤ p.id)) := (List.takeWhile_append_dropWhile).symm
  have h' := h
  rw [e] at h'
  have := merge_last (key := keyP) (x := p) h' (fun y hy => of_decide_eq_true (mem_tw (p := fun q : Pen => decide (q.id ≤ p.id)) hy)) (by
    intro y hy
    have hs := (List.pairwise_append.1 h').2.1
    cases hd : l.dropWhile (fun q => decide (q.id ≤ p.id)) with
    | nil => rw [hd] at hy; cases hy
    | cons z zs =>
      have hz : ¬ (decide (z.id ≤ p.id) = true) := by
        have := List.head_dropWhile_not (fun q : Pen => decide (q.id ≤ p.id)) (l := l) (by rw [hd]; simp)
        simp only [hd, List.head_cons] at this
        simp only [this]; simp
      have hz' : p.id < z.id := by simpa using hz
      rw [hd] at hy hs
      rcases List.mem_cons.1 hy with rfl | hy
      · exact hz'
      · have : z.id ≤ y.id := (List.pairwise_cons.1 hs).1 y hy
        exact Int.lt_of_lt_of_le hz' this)
  rw [← e] at this
  exact this
theorem fold_sorts : ∀ (l acc l0 : List Pen), Sorts keyP l0 acc → Sorts keyP (l0 ++ l) (l.foldl placeP acc)
  | [], acc, l0, h => by simpa using h
  | p :: l, acc, l0, h => by
    have h1 := place_sorts (p := p) h.1
    have := fold_sorts l (placeP acc p) (l0 ++ [p]) ⟨h1.1, (h.2.app (Sam.refl [p])).trans h1.2⟩
    simpa [List.append_assoc] using this
theorem sortP_sorts (l : List Pen) : Sorts keyP l (sortP l) := by
  have := fold_sorts l [] [] ⟨List.Pairwise.nil, Sam.refl _⟩
  simpa [sortP] using this
theorem sorts_eq {l M : List Pen} (h : Sorts keyP l M) : M = sortP l := sorts_unique M (sortP l) h.1 (sortP_sorts l).1 (h.2.symm.trans (sortP_sorts l).2)
theorem place_length (l : List Pen) (p : Pen) : (placeP l p).length = l.length + 1 := by
  unfold placeP
  have e := congrArg List.length (List.takeWhile_append_dropWhile (p := fun q : Pen => decide (q.id ≤ p.id)) (l := l))
  rw [List.length_append] at e
  simp; omega
theorem fold_length : ∀ (l acc : List Pen), (l.foldl placeP acc).length = acc.length + l.length
  | [], acc => by simp
  | p :: l, acc => by rw [List.foldl_cons, fold_length l, place_length]; simp; omega
theorem sortP_length (l : List Pen) : (sortP l).length = l.length := by unfold sortP; rw [fold_length]; simp
def cellsP (l : List Pen) : List Value := l.flatMap Pen.enc
theorem cellsP_length : ∀ l : List Pen, (cellsP l).length = l.length * 35
  | [] => rfl
  | s :: l => by
    have : cellsP (s :: l) = s.enc ++ cellsP l := by simp [cellsP]
    rw [this, List.length_append, s.enc_len, cellsP_length l, List.length_cons]; omega
theorem cellsP_append (a b : List Pen) : cellsP (a ++ b) = cellsP a ++ cellsP b := by simp [cellsP]
theorem cellsP_one (s : Pen) : cellsP [s] = s.enc := by simp [cellsP]
theorem cellsP_get : ∀ (l : List Pen) (k : Nat) (s : Pen) (hk : l[k]? = some s) (j : Nat), j < 35 → (cellsP l)[k * 35 + j]? = s.enc[j]?
  | [], k, s, hk, j, hj => by simp at hk
  | x :: l, 0, s, hk, j, hj => by
    simp only [List.getElem?_cons_zero, Option.some.injEq] at hk
    subst hk
    have e : cellsP (x :: l) = x.enc ++ cellsP l := by simp [cellsP]
    rw [e, List.getElem?_append_left (by rw [x.enc_len]; omega), Nat.zero_mul, Nat.zero_add]
  | x :: l, k + 1, s, hk, j, hj => by
    simp only [List.getElem?_cons_succ] at hk
    have e : cellsP (x :: l) = x.enc ++ cellsP l := by simp [cellsP]
    rw [e, List.getElem?_append_right (by rw [x.enc_len]; omega), x.enc_len, show (k + 1) * 35 + j - 35 = k * 35 + j by omega]
    exact cellsP_get l k s hk j hj
theorem flat_cells (l : List Pen) (t : Nat) (ht : t < l.length * 35) : some (flatK Pen.enc 35 l.toArray)[t]! = (cellsP l)[t]? := by
  have h3 : t / 35 < l.length := by omega
  rw [get_flatK _ _ _ t (by rw [List.size_toArray]; omega)]
  have e : t = t / 35 * 35 + t % 35 := by omega
  have hg := cellsP_get l (t / 35) l[t / 35] (List.getElem?_eq_getElem h3) (t % 35) (by omega)
  conv => rhs; rw [e]
  rw [hg]
  have hx : l.toArray[t / 35]! = l[t / 35] := by rw [getElem!_pos _ _ (by rw [List.size_toArray]; exact h3)]; rfl
  rw [hx]
  have : t % 35 < (l[t / 35].enc).length := by rw [Pen.enc_len]; omega
  rw [List.getElem?_eq_getElem this]
  exact congrArg some (getElem!_pos (l[t / 35].enc) (t % 35) this)
def OwnP (B : Nat) (w : World) (v : Value) (l : List Pen) : Prop := w.ownsRow B 55 35 v l.length (cellsP l)
theorem holds_P {w : World} {g : Nat} {cur : Array Value} {e : TypeId} {l : List Pen} (hb : w.heap[g]? = some (.cells cur e (0, 0))) (ht : cur.toList.take (l.length * 35) = cellsP l) : HoldsK Pen.enc 35 w g 0 l.toArray := by
  intro t h
  rw [size_flatK, List.size_toArray] at h
  refine ⟨?_, by simp [World.frozen?, hb]⟩
  rw [Nat.zero_add, cell_of_row w g t cur e (0, 0) hb, ← Array.getElem?_toList]
  have h1 : (cur.toList.take (l.length * 35))[t]? = (cellsP l)[t]? := by rw [ht]
  rw [List.getElem?_take_of_lt h] at h1
  rw [h1, ← flat_cells l t h]; rfl
theorem take_putP (cur : Array Value) (l : List Pen) (h : l.length * 35 ≤ cur.size) : (putCells id 0 (flatK Pen.enc 35 l.toArray) cur).toList.take (l.length * 35) = cellsP l := by
  apply List.ext_getElem?
  intro j
  by_cases hj : j < l.length * 35
  · rw [List.getElem?_take_of_lt hj, Array.getElem?_toList, ← flat_cells l j hj]
    have hj2 : j < (flatK Pen.enc 35 l.toArray).size := by rw [size_flatK, List.size_toArray]; exact hj
    simp [putCells, show j < cur.size by omega, hj]
  · rw [List.getElem?_take_eq_none (by omega), List.getElem?_eq_none (by rw [cellsP_length]; omega)]
set_option maxRecDepth 100000 in
set_option maxHeartbeats 1000000 in
theorem sort_nil (w : World) : Calls Try.prog 29 #[.slice none 0 0, byID] w fun e w' => e = .returned (.tuple #[]) ∧ w' = w := by
  have hI : Calls Try.prog 34 #[.slice none 0 0, .int .i64 0, .int .i64 0, byID] w fun e w' => e = .returned (.tuple #[]) ∧ w' = w := by
    unfold byID
    go_enter Try.func34, Try.ntmps34
    go_wp2
    refine wp_loop_rounds 1 ?_
    rw [rounds_succ]
    go_wp2
    go_end0
    exact ⟨rfl, rfl⟩
  have hS : Calls Try.prog 32 #[.slice none 0 0, .int .i64 0, byID] w fun e w' => e = .returned (.tuple #[]) ∧ w' = w := by
    have HI := hide hI
    unfold byID at HI ⊢
    clear hI
    go_enter Try.func32, Try.ntmps32
    go_wp2
    refine wp_loop_rounds 1 ?_
    rw [rounds_succ]
    go_wp2_with (go_at_call 34; go_must (refine HI.out.mono ?_); rintro e wx ⟨rfl, hx⟩; obtain rfl := hx.symm; clear hx)
    refine wp_loop_rounds 1 ?_
    rw [rounds_succ]
    go_wp2
    go_end0
    exact ⟨rfl, rfl⟩
  have HS := hide hS
  unfold byID at HS ⊢
  clear hI hS
  go_enter Try.func29, Try.ntmps29
  go_wp2_with (go_at_call 32; go_must (refine HS.out.mono ?_); rintro e wx ⟨rfl, hx⟩; obtain rfl := hx.symm; clear hx)
  go_end0
  exact ⟨rfl, rfl⟩
set_option maxRecDepth 100000 in
set_option maxHeartbeats 1000000 in
theorem sort_any (B : Nat) (w : World) (v : Value) (l : List Pen) (h : OwnP B w v l) (hz : l.length ≤ 4000000000000) : Calls Try.prog 29 #[v, byID] w fun e w' => e = .returned (.tuple #[]) ∧ OwnP B w' v (sortP l) ∧ w.grownBy w' v.ownBlock := by
  obtain ⟨hl, ⟨rfl, hn⟩ | ⟨g, cap, cur, rfl, hb, hg, h1, h2, h3, h4⟩⟩ := h
  · have : l = [] := List.length_eq_zero_iff.1 hn
    subst this
    refine (sort_nil w).mono ?_
    rintro e w' ⟨rfl, rfl⟩
    exact ⟨rfl, World.ownsRow_nil _ _ _ _, ⟨rfl, rfl, rfl, Nat.le_refl _, fun _ _ _ => rfl⟩⟩
  · have hH := holds_P hg h4
    have hlt : g < w.heap.size := (Array.getElem?_eq_some_iff.1 hg).1
    have C := stable_any Try.prog 35 ptA w g 0 l.length cap l.toArray l.toArray (by simp) hz ⟨fun x => x.enc_len, fun x => x.one, hH, hlt⟩ w (SWK.start hH) (by simp) l (by simp)
    have C2 : Calls Try.prog 32 #[.slice (some ⟨g, 0, none⟩) l.length cap, .int .i64 (l.length : Int), byID] w fun e w' => e = .returned (.tuple #[]) ∧ OwnP B w' (.slice (some ⟨g, 0, none⟩) l.length cap) (sortP l) ∧ w.grownBy w' (some g) := by
      refine C.mono ?_
      rintro e w' ⟨rfl, dk', M, ⟨n, os, hw⟩, hs, hM, hso⟩
      have hMl : M = sortP l := sorts_eq hso
      have hdk : dk' = (sortP l).toArray := by rw [← hMl, ← hM]
      subst hw
      have hlen := sortP_length l
      refine ⟨rfl, ?_, ?_⟩
      · refine ⟨by rw [cellsP_length], .inr ⟨g, cap, putCells id 0 (flatK Pen.enc 35 dk') cur, by rw [hlen], hb, ?_, by rw [hlen]; exact h1, h2, by simp [putCells, h3], ?_⟩⟩
        · unfold sortWorldK putRowK
          rw [heap_grow_old _ _ (by simpa [putRow, mapBlock, Sort.ahead] using hlt)]
          simp [putRow, mapBlock, Sort.ahead, Array.getElem?_modify, hg, onCells]
        · rw [hdk]
          exact take_putP cur (sortP l) (by rw [hlen, h3]; exact Nat.mul_le_mul_right 35 h1)
      · unfold sortWorldK putRowK
        refine ⟨rfl, rfl, rfl, by simp [putRow, mapBlock, Sort.ahead], fun k hk hne => ?_⟩
        rw [heap_grow_old _ _ (by simpa [putRow, mapBlock, Sort.ahead] using hk)]
        have : g ≠ k := fun e => hne (by rw [e])
        simp [putRow, mapBlock, Sort.ahead, Array.getElem?_modify, this]
    have HC := hide C2
    obtain ⟨n, hn⟩ : ∃ n, l.length = n := ⟨_, rfl⟩
    rw [hn] at HC ⊢
    have HP : Hid (∀ w', OwnP B w' (.slice (some ⟨g, 0, none⟩) n cap) (sortP l) → OwnP B w' (.slice (some ⟨g, 0, none⟩) n cap) (sortP l)) := fun _ h => h
    show Calls _ _ _ _ fun e w' => e = .returned (.tuple #[]) ∧ OwnP B w' (.slice (some ⟨g, 0, none⟩) n cap) (sortP l) ∧ w.grownBy w' (some g)
    unfold byID at HC ⊢
    clear C C2 hH hlt h4 h3 h2 h1 hg hb hl hz hn
    go_enter Try.func29, Try.ntmps29
    go_wp2_with fail
    refine HC.out.mono ?_
    rintro e w2 ⟨rfl, hO, hG⟩
    go_wp2
    go_end0
    exact ⟨rfl, hO, hG⟩
end Go.Proofs.Ytbeoojnofblnjaa
