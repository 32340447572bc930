/-
  Rows of one's own side by side (printed by gen_r26.py).
-/
import Derived.Test.YtlohfoggcdaeiaaGreatRBackM
namespace Go.Proofs.YtlohfoggcdaeiaaGreat
open Go.RowKit S
set_option linter.unusedVariables false
set_option linter.unusedSimpArgs false
open Cu (nb be hl ofL CW Mw CR Mr RS takeS takeA hOf nil8 doneS)
theorem infoSQ3 : (Tryz.prog.info? 49).map (fun i => (i.zero, i.size, i.bytes)) = some (some (.agg (tabv Slot.zero.v 34)), 34, 48) := by kernel_rfl
theorem infoSP : ∃ i, Tryz.prog.info? 49 = some i ∧ i.zero = some (.agg (tabv Slot.zero.v 34)) ∧ i.size = 34 ∧ i.bytes = 48 := by
  have h := infoSQ3
  cases hq : Tryz.prog.info? 49 with
  | none => simp [hq] at h
  | some i => simp [hq] at h; exact ⟨i, rfl, h.1, h.2.1, h.2.2⟩
theorem OwnS.storeAt {B m cap : Nat} {w : World} {ad : Option Addr} {la : List Slot} (h : OwnS B w (.slice ad m cap) la) (hl : la.length = m) {j : Nat} (hj : j < m) : ∃ g f, ad = some ⟨g, 0, none⟩ ∧ Has w g 49 f (cap * 34) ∧ m ≤ cap ∧ ∀ s : Slot, OwnS B (w.setRow g (tabv (splice f (j * 34) s.v 34) (cap * 34))) (.slice ad m cap) (la.set j s) := by
  obtain ⟨h1, ⟨_, h2⟩ | ⟨g, c, cur, e, hb, hg, hnc, hcm, hcs, htake⟩⟩ := h
  · omega
  · rw [hl] at e hnc htake h1
    cases e
    have ht : cur = tabv (fun i => cur.getD i undef) (cap * 34) := tabv_ext _ _ _ hcs fun i hi => by
      rw [Array.getD_eq_getD_getElem?, Array.getElem?_eq_getElem (by omega)]; rfl
    have hH : Has w g 49 (fun i => cur.getD i undef) (cap * 34) := by unfold Has; rw [← ht]; exact hg
    refine ⟨g, _, rfl, hH, hnc, fun s => ?_⟩
    have hn := hH.row (tabv (splice (fun i => cur.getD i undef) (j * 34) s.v 34) (cap * 34)) (splice (fun i => cur.getD i undef) (j * 34) s.v 34) rfl
    unfold OwnS
    rw [List.length_set, hl]
    refine ⟨by rw [cellsS_length, List.length_set, hl], .inr ⟨g, cap, _, rfl, hb, hn, hnc, hcm, tabv_size _ _, ?_⟩⟩
    apply List.ext_getElem?
    intro i
    rw [List.getElem?_take]
    by_cases hi : i < m * 34
    · rw [if_pos hi, Array.getElem?_toList, tabv_get _ _ _ (by omega)]
      unfold splice
      by_cases hk : j * 34 ≤ i ∧ i < j * 34 + 34
      · rw [if_pos hk]
        have := cellsS_get (la.set j s) j s (by rw [List.getElem?_set, if_pos rfl, if_pos (by omega)]) (i - j * 34) (by omega)
        rw [show j * 34 + (i - j * 34) = i by omega] at this
        exact this.symm
      · rw [if_neg hk]
        have hki : i / 34 < la.length := by omega
        obtain ⟨u, hu⟩ : ∃ u, la[i / 34]? = some u := ⟨_, List.getElem?_eq_getElem hki⟩
        have e1 := cellsS_get (la.set j s) (i / 34) u (by rw [List.getElem?_set, if_neg (by omega)]; exact hu) (i % 34) (by omega)
        have e2 := cellsS_get la (i / 34) u hu (i % 34) (by omega)
        rw [show i / 34 * 34 + i % 34 = i by omega] at e1 e2
        rw [e1, ← e2, ← htake, List.getElem?_take, if_pos hi, Array.getElem?_toList, Array.getElem?_eq_getElem (by omega)]
        show some (cur.getD i undef) = some cur[i]
        rw [Array.getD_eq_getD_getElem?, Array.getElem?_eq_getElem (by omega)]
        rfl
    · rw [if_neg hi, List.getElem?_eq_none (by rw [cellsS_length, List.length_set, hl]; omega)]
theorem OwnU.storeAt {B m cap : Nat} {w : World} {ad : Option Addr} {la : List Upd} (h : OwnU B w (.slice ad m cap) la) (hl : la.length = m) {j : Nat} (hj : j < m) : ∃ g f, ad = some ⟨g, 0, none⟩ ∧ Has w g 36 f (cap * 36) ∧ m ≤ cap ∧ ∀ s : Upd, OwnU B (w.setRow g (tabv (splice f (j * 36) s.v 36) (cap * 36))) (.slice ad m cap) (la.set j s) := by
  obtain ⟨h1, ⟨_, h2⟩ | ⟨g, c, cur, e, hb, hg, hnc, hcm, hcs, htake⟩⟩ := h
  · omega
  · rw [hl] at e hnc htake h1
    cases e
    have ht : cur = tabv (fun i => cur.getD i undef) (cap * 36) := tabv_ext _ _ _ hcs fun i hi => by
      rw [Array.getD_eq_getD_getElem?, Array.getElem?_eq_getElem (by omega)]; rfl
    have hH : Has w g 36 (fun i => cur.getD i undef) (cap * 36) := by unfold Has; rw [← ht]; exact hg
    refine ⟨g, _, rfl, hH, hnc, fun s => ?_⟩
    have hn := hH.row (tabv (splice (fun i => cur.getD i undef) (j * 36) s.v 36) (cap * 36)) (splice (fun i => cur.getD i undef) (j * 36) s.v 36) rfl
    unfold OwnU
    rw [List.length_set, hl]
    refine ⟨by rw [cellsU_length, List.length_set, hl], .inr ⟨g, cap, _, rfl, hb, hn, hnc, hcm, tabv_size _ _, ?_⟩⟩
    apply List.ext_getElem?
    intro i
    rw [List.getElem?_take]
    by_cases hi : i < m * 36
    · rw [if_pos hi, Array.getElem?_toList, tabv_get _ _ _ (by omega)]
      unfold splice
      by_cases hk : j * 36 ≤ i ∧ i < j * 36 + 36
      · rw [if_pos hk]
        have := cellsU_get (la.set j s) j s (by rw [List.getElem?_set, if_pos rfl, if_pos (by omega)]) (i - j * 36) (by omega)
        rw [show j * 36 + (i - j * 36) = i by omega] at this
        exact this.symm
      · rw [if_neg hk]
        have hki : i / 36 < la.length := by omega
        obtain ⟨u, hu⟩ : ∃ u, la[i / 36]? = some u := ⟨_, List.getElem?_eq_getElem hki⟩
        have e1 := cellsU_get (la.set j s) (i / 36) u (by rw [List.getElem?_set, if_neg (by omega)]; exact hu) (i % 36) (by omega)
        have e2 := cellsU_get la (i / 36) u hu (i % 36) (by omega)
        rw [show i / 36 * 36 + i % 36 = i by omega] at e1 e2
        rw [e1, ← e2, ← htake, List.getElem?_take, if_pos hi, Array.getElem?_toList, Array.getElem?_eq_getElem (by omega)]
        show some (cur.getD i undef) = some cur[i]
        rw [Array.getD_eq_getD_getElem?, Array.getElem?_eq_getElem (by omega)]
        rfl
    · rw [if_neg hi, List.getElem?_eq_none (by rw [cellsU_length, List.length_set, hl]; omega)]
theorem appS_at (w : World) (B : Nat) (v : Value) (l : List Slot) (s : Slot) (hown : OwnS B w v l) (hsz : (l.length + 1) * 48 ≤ 140737488355328) (hB : B ≤ w.heap.size) :
    ∃ v' w1 w', (Instr.buildSlice 29 1 #[(0, .agg (tabv s.v 34))]).run Tryz.prog w = .ok (.slice (some ⟨w.heap.size, 0, none⟩) 1 1) w1 ∧ (Builtin.append_ #[29, 29] 29 #[v, .slice (some ⟨w.heap.size, 0, none⟩) 1 1]).run Tryz.prog w1 = .ok v' w' ∧
      OwnS B w' v' (l ++ [s]) ∧ (∀ g, g < w.heap.size → v.ownBlock ≠ some g → w'.heap[g]? = w.heap[g]?) ∧ Below B w w' ∧ (∀ k, v'.ownBlock = some k → v.ownBlock = some k ∨ w.heap.size ≤ k) ∧ w1 = w.alloc (.cells (tabv s.v 34) 49) := by
  obtain ⟨i, h1, h2, h3, h4⟩ := infoSP
  have hb : Has (w.alloc (.cells (tabv s.v 34) 49)) w.heap.size 49 s.v 34 := Has.new w 49 s.v 34 _ rfl
  have ho : OwnS B (w.alloc (.cells (tabv s.v 34) 49)) v l := World.ownsRow.alloc hown _
  obtain ⟨v', w', e1, e2, e3, _, e5⟩ := run_append_own_at (P := Tryz.prog) (w.alloc (.cells (tabv s.v 34) 49)) B 29 29 49 i _ 34 48 Tryz.underlying29 h1 h2 h3 h4 (by rfl) (by omega) v l.length (cellsS l) ho ⟨w.heap.size, 0, none⟩ 1 1 (cellsS [s]) (by rw [cellsS_length]; rfl)
    (fun j u hj => by
      have hj' : j < 34 := by have := (List.getElem?_eq_some_iff.1 hj).1; rw [cellsS_length] at this; simpa using this
      have hadd : (⟨w.heap.size, 0, none⟩ : Addr).add j = ⟨w.heap.size, j, none⟩ := by unfold Addr.add; split <;> simp_all
      rw [hadd, hb.cell j hj', ← hj, cellsS_one, Array.getElem?_toList, tabv_get _ _ _ hj'])
    (oneCell_S _) (by unfold maxLen; omega) hsz (by rw [size_alloc]; omega)
  obtain ⟨q1, q2⟩ := grown_all e3 (fun k hk => (hown.lt k hk).1) hB
  refine ⟨v', _, w', run_sliceS w s, e1, ?_, q1, q2, ?_, rfl⟩
  · unfold OwnS
    rw [List.length_append, cellsS_append]
    exact e2
  · intro k hk
    rcases e5 with e5 | e5
    · exact .inl (by rw [← e5]; exact hk)
    · rw [e5] at hk
      cases hk
      exact .inr (by rw [size_alloc]; omega)
theorem run_slice0 (w : World) : ∃ w', (Instr.buildSlice 27 0 #[]).run Tryz.prog w = .ok (.slice (some ⟨w.heap.size, 0, none⟩) 0 0) w' ∧ OwnU w.heap.size w' (.slice (some ⟨w.heap.size, 0, none⟩) 0 0) [] ∧ Below w.heap.size w w' := by
  obtain ⟨i, h1, h2, h3, h4⟩ := infoUP
  refine ⟨w.alloc (.cells #[] 36), ?_, ⟨rfl, .inr ⟨w.heap.size, 0, #[], rfl, Nat.le_refl _, heap_alloc_new w _, Nat.le_refl _, by decide, rfl, rfl⟩⟩, (Below.refl _ _).alloc (Nat.le_refl _) _⟩
  simp only [Instr.buildSlice, Sem.run_bind, run_underlying Tryz.underlying27, Result.andThen_ok, sizeOf, typeInfo, h1, h3]
  simp [zeroValue, typeInfo, h1, h2, newRow, Instr.fill]
  have e : Array.map (fun (_ : Nat) => (default : Value)) (Array.range 0) = #[] := by first | rfl | (apply Array.ext <;> simp) | (simp [Array.range])
  first | rw [e] | (congr 2)
theorem run_slice0S (w : World) : ∃ w', (Instr.buildSlice 29 0 #[]).run Tryz.prog w = .ok (.slice (some ⟨w.heap.size, 0, none⟩) 0 0) w' ∧ OwnS w.heap.size w' (.slice (some ⟨w.heap.size, 0, none⟩) 0 0) [] ∧ Below w.heap.size w w' := by
  obtain ⟨i, h1, h2, h3, h4⟩ := infoSP
  refine ⟨w.alloc (.cells #[] 49), ?_, ⟨rfl, .inr ⟨w.heap.size, 0, #[], rfl, Nat.le_refl _, heap_alloc_new w _, Nat.le_refl _, by decide, rfl, rfl⟩⟩, (Below.refl _ _).alloc (Nat.le_refl _) _⟩
  simp only [Instr.buildSlice, Sem.run_bind, run_underlying Tryz.underlying29, Result.andThen_ok, sizeOf, typeInfo, h1, h3]
  simp [zeroValue, typeInfo, h1, h2, newRow, Instr.fill]
  have e : Array.map (fun (_ : Nat) => (default : Value)) (Array.range 0) = #[] := by first | rfl | (apply Array.ext <;> simp) | (simp [Array.range])
  first | rw [e] | (congr 2)
theorem run_appUU (w : World) (B : Nat) (v : Value) (l news : List Upd) (ad : Option Addr) (cap : Nat) (ty : TypeId) (hown : OwnU B w v l) (hS : Upds w ad news) (hn : ad = none → news = []) (hsz : (l.length + news.length) * 72 ≤ 140737488355328) (hB : B ≤ w.heap.size) :
    ∃ v' w', (Builtin.append_ #[27, 27] ty #[v, .slice ad news.length cap]).run Tryz.prog w = .ok v' w' ∧ OwnU B w' v' (l ++ news) ∧ w.grownBy w' v.ownBlock := by
  obtain ⟨i, h1, h2, h3, h4⟩ := infoUP
  cases ad with
  | none =>
    have := hn rfl
    subst this
    refine ⟨v, w, ?_, by rw [List.append_nil]; exact hown, ⟨rfl, rfl, rfl, Nat.le_refl _, fun _ _ _ => rfl⟩⟩
    obtain ⟨_, ⟨rfl, _⟩ | ⟨g, c, cur, rfl, hb, hg, q1, q2, q3, q4⟩⟩ := hown
    · simp [Builtin.append_, run_underlying Tryz.underlying27, sizeOf, typeInfo, h1, Builtin.lenOf, Builtin.firstCells, storeCells, loadCells, loadCellsFrom]
    · simp [Builtin.append_, run_underlying Tryz.underlying27, sizeOf, typeInfo, h1, Builtin.lenOf, Builtin.firstCells, storeCells, loadCells, loadCellsFrom, q1]
  | some a =>
    obtain ⟨v', w', e1, e2, e3, _⟩ := run_append_own (P := Tryz.prog) w B 27 ty 36 i _ 36 72 Tryz.underlying27 h1 h2 h3 h4 (by rfl) (by omega) v l.length (cellsU l) hown a news.length cap (cellsU news) (cellsU_length news)
      (fun j u hj => by
        have hjl : j < news.length * 36 := by have := (List.getElem?_eq_some_iff.1 hj).1; rw [cellsU_length] at this; exact this
        rcases hS with rfl | ⟨b, o, ha, _, h⟩
        · simp at hjl
        · cases ha
          have hk : j / 36 < news.length := by omega
          have hs : news[j / 36]? = some news[j / 36] := List.getElem?_eq_getElem hk
          have hc := h (j / 36) _ hs (j % 36) (by omega)
          have hg := cellsU_get news (j / 36) _ hs (j % 36) (by omega)
          rw [show j / 36 * 36 + j % 36 = j by omega, hj] at hg
          have hadd : (⟨b, o, none⟩ : Addr).add j = ⟨b, o + j, none⟩ := by unfold Addr.add; split <;> simp_all
          rw [hadd, hg, ← hc, show o + j / 36 * 36 + j % 36 = o + j by omega])
      (oneCell_U _) (by unfold maxLen; omega) hsz hB
    refine ⟨v', w', e1, ?_, e3⟩
    unfold OwnU
    rw [List.length_append, cellsU_append]
    exact e2
theorem run_appSS (w : World) (B : Nat) (v : Value) (l news : List Slot) (ad : Option Addr) (cap : Nat) (ty : TypeId) (hown : OwnS B w v l) (hS : Slots w ad news) (hn : ad = none → news = []) (hsz : (l.length + news.length) * 48 ≤ 140737488355328) (hB : B ≤ w.heap.size) :
    ∃ v' w', (Builtin.append_ #[29, 29] ty #[v, .slice ad news.length cap]).run Tryz.prog w = .ok v' w' ∧ OwnS B w' v' (l ++ news) ∧ w.grownBy w' v.ownBlock := by
  obtain ⟨i, h1, h2, h3, h4⟩ := infoSP
  cases ad with
  | none =>
    have := hn rfl
    subst this
    refine ⟨v, w, ?_, by rw [List.append_nil]; exact hown, ⟨rfl, rfl, rfl, Nat.le_refl _, fun _ _ _ => rfl⟩⟩
    obtain ⟨_, ⟨rfl, _⟩ | ⟨g, c, cur, rfl, hb, hg, q1, q2, q3, q4⟩⟩ := hown
    · simp [Builtin.append_, run_underlying Tryz.underlying29, sizeOf, typeInfo, h1, Builtin.lenOf, Builtin.firstCells, storeCells, loadCells, loadCellsFrom]
    · simp [Builtin.append_, run_underlying Tryz.underlying29, sizeOf, typeInfo, h1, Builtin.lenOf, Builtin.firstCells, storeCells, loadCells, loadCellsFrom, q1]
  | some a =>
    obtain ⟨v', w', e1, e2, e3, _⟩ := run_append_own (P := Tryz.prog) w B 29 ty 49 i _ 34 48 Tryz.underlying29 h1 h2 h3 h4 (by rfl) (by omega) v l.length (cellsS l) hown a news.length cap (cellsS news) (cellsS_length news)
      (fun j u hj => by
        have hjl : j < news.length * 34 := by have := (List.getElem?_eq_some_iff.1 hj).1; rw [cellsS_length] at this; exact this
        rcases hS with rfl | ⟨b, o, ha, _, h⟩
        · simp at hjl
        · cases ha
          have hk : j / 34 < news.length := by omega
          have hs : news[j / 34]? = some news[j / 34] := List.getElem?_eq_getElem hk
          have hc := h (j / 34) _ hs (j % 34) (by omega)
          have hg := cellsS_get news (j / 34) _ hs (j % 34) (by omega)
          rw [show j / 34 * 34 + j % 34 = j by omega, hj] at hg
          have hadd : (⟨b, o, none⟩ : Addr).add j = ⟨b, o + j, none⟩ := by unfold Addr.add; split <;> simp_all
          rw [hadd, hg, ← hc, show o + j / 34 * 34 + j % 34 = o + j by omega])
      (oneCell_S _) (by unfold maxLen; omega) hsz hB
    refine ⟨v', w', e1, ?_, e3⟩
    unfold OwnS
    rw [List.length_append, cellsS_append]
    exact e2
inductive Rw where
  | u (x : Sl) (l : List Upd)
  | f (x : Sl) (l : List Slot)
def Rw.x : Rw → Sl
  | .u x _ => x
  | .f x _ => x
def Rw.ok (B : Nat) (w : World) : Rw → Prop
  | .u x l => OwnU B w x.v l
  | .f x l => OwnS B w x.v l
theorem Rw.ok.lt {B : Nat} {w : World} {r : Rw} (h : r.ok B w) : ∀ k, r.x.v.ownBlock = some k → B ≤ k ∧ k < w.heap.size := by
  cases r with
  | u x l => exact OwnU.lt h
  | f x l => exact OwnS.lt h
theorem Rw.ok.same {B : Nat} {w w' : World} {r : Rw} (h : r.ok B w) (e : ∀ k, r.x.v.ownBlock = some k → w'.heap[k]? = w.heap[k]?) : r.ok B w' := by
  cases r with
  | u x l => exact OwnU.same h e
  | f x l => exact OwnS.same h e
theorem Rw.ok.mono {B B' : Nat} {w : World} {r : Rw} (h : r.ok B w) (hb : B' ≤ B) : r.ok B' w := by
  cases r with
  | u x l => exact OwnU.mono h hb
  | f x l => exact OwnS.mono h hb
/-- Rows of one's own, each apart from the others and from the blocks of F. -/
structure Rws (B : Nat) (w : World) (L : List Rw) (F : List Nat) : Prop where
  ok : ∀ (i : Nat) (r : Rw), L[i]? = some r → r.ok B w
  ap : ∀ (i j : Nat) (r q : Rw), L[i]? = some r → L[j]? = some q → i ≠ j → ∀ k, r.x.v.ownBlock = some k → q.x.v.ownBlock ≠ some k
  fx : ∀ g ∈ F, g < w.heap.size
  fa : ∀ (i : Nat) (r : Rw), L[i]? = some r → ∀ k, r.x.v.ownBlock = some k → k ∉ F
/-- What a step may turn: one block, and what is new. -/
structure StepOn (w w' : World) (ob : Option Nat) : Prop where
  same : ∀ k, k < w.heap.size → ob ≠ some k → w'.heap[k]? = w.heap[k]?
  size : w.heap.size ≤ w'.heap.size
theorem StepOn.of_below {w w' : World} (h : Below w.heap.size w w') (ob : Option Nat) : StepOn w w' ob := ⟨fun k hk _ => h.block k hk, h.size⟩
theorem StepOn.row {w : World} (g : Nat) (cs : Array Value) : StepOn w (w.setRow g cs) (some g) := ⟨fun k _ hne => setRow_other _ _ _ _ (fun e => hne (by rw [e])), by simp⟩
theorem Rws.low {B : Nat} {w w' : World} {L : List Rw} {F : List Nat} (h : Rws B w L F) (hb : Below w.heap.size w w') : Rws B w' L F :=
  ⟨fun i r hr => (h.ok i r hr).same fun k hk => hb.block k ((h.ok i r hr).lt k hk).2, h.ap, fun g hg => Nat.lt_of_lt_of_le (h.fx g hg) hb.size, h.fa⟩
theorem Rws.other {B : Nat} {w w' : World} {L : List Rw} {F : List Nat} (h : Rws B w L F) {g : Nat} (hg : g ∈ F) (hs : ∀ k, k ≠ g → w'.heap[k]? = w.heap[k]?) (hz : w.heap.size ≤ w'.heap.size) : Rws B w' L F :=
  ⟨fun i r hr => (h.ok i r hr).same fun k hk => hs k (fun e => h.fa i r hr k hk (e ▸ hg)), h.ap, fun g' hg' => Nat.lt_of_lt_of_le (h.fx g' hg') hz, h.fa⟩
theorem Rws.step [Inhabited S.Tbl] {B : Nat} {w w' : World} {L : List Rw} {F : List Nat} (h : Rws B w L F) {i : Nat} {r r' : Rw} (hi : L[i]? = some r) (hs : StepOn w w' r.x.v.ownBlock) (hr : r'.ok B w') (hb : ∀ k, r'.x.v.ownBlock = some k → r.x.v.ownBlock = some k ∨ w.heap.size ≤ k) : Rws B w' (L.set i r') F := by
  have hlen : i < L.length := (List.getElem?_eq_some_iff.1 hi).1
  have get : ∀ (j : Nat) (q : Rw), (L.set i r')[j]? = some q → (j = i ∧ q = r') ∨ (j ≠ i ∧ L[j]? = some q) := fun j q hq => by
    rw [List.getElem?_set] at hq
    by_cases e : i = j
    · subst e
      rw [if_pos rfl, if_pos hlen] at hq
      exact .inl ⟨rfl, (Option.some.inj hq).symm⟩
    · rw [if_neg e] at hq
      exact .inr ⟨fun x => e x.symm, hq⟩
  refine ⟨fun j q hq => ?_, fun j1 j2 q1 q2 h1 h2 hne k hk hk2 => ?_, fun g hg => Nat.lt_of_lt_of_le (h.fx g hg) hs.size, fun j q hq k hk hF => ?_⟩
  · rcases get j q hq with ⟨_, rfl⟩ | ⟨hj, hq⟩
    · exact hr
    · exact (h.ok j q hq).same fun k hk => hs.same k ((h.ok j q hq).lt k hk).2 (h.ap j i q r hq hi hj k hk)
  · rcases get j1 q1 h1 with ⟨e1, rfl⟩ | ⟨hj1, m1⟩
    · rcases get j2 q2 h2 with ⟨e2, _⟩ | ⟨hj2, m2⟩
      · exact hne (e1.trans e2.symm)
      · rcases hb k hk with hk' | hk'
        · exact h.ap i j2 r q2 hi m2 (fun e => hj2 e.symm) k hk' hk2
        · have := ((h.ok j2 q2 m2).lt k hk2).2; omega
    · rcases get j2 q2 h2 with ⟨e2, rfl⟩ | ⟨hj2, m2⟩
      · rcases hb k hk2 with hk' | hk'
        · exact h.ap i j1 r q1 hi m1 (fun e => hj1 e.symm) k hk' hk
        · have := ((h.ok j1 q1 m1).lt k hk).2; omega
      · exact h.ap j1 j2 q1 q2 m1 m2 hne k hk hk2
  · rcases get j q hq with ⟨_, rfl⟩ | ⟨hj, hq⟩
    · rcases hb k hk with hk' | hk'
      · exact h.fa i r hi k hk' hF
      · have := h.fx k hF; omega
    · exact h.fa j q hq k hk hF
/-- A block of F stays. -/
theorem Rws.fixed {B : Nat} {w w' : World} {L : List Rw} {F : List Nat} (h : Rws B w L F) {i : Nat} {r : Rw} (hi : L[i]? = some r) (hs : StepOn w w' r.x.v.ownBlock) {g : Nat} (hg : g ∈ F) : w'.heap[g]? = w.heap[g]? :=
  hs.same g (h.fx g hg) (fun e => h.fa i r hi g e hg)
theorem Rws.app {B N : Nat} {w : World} {L L2 : List Rw} {F : List Nat} (h : Rws B w L F) (h2 : Rws N w L2 F) (hN : ∀ (i : Nat) (r : Rw), L[i]? = some r → ∀ k, r.x.v.ownBlock = some k → k < N) (hBN : B ≤ N) : Rws B w (L ++ L2) F := by
  have get : ∀ (j : Nat) (q : Rw), (L ++ L2)[j]? = some q → (j < L.length ∧ L[j]? = some q) ∨ (L.length ≤ j ∧ L2[j - L.length]? = some q) := fun j q hq => by
    rcases Nat.lt_or_ge j L.length with hl | hl
    · rw [List.getElem?_append_left hl] at hq; exact .inl ⟨hl, hq⟩
    · rw [List.getElem?_append_right hl] at hq; exact .inr ⟨hl, hq⟩
  refine ⟨fun j q hq => ?_, fun j1 j2 q1 q2 e1 e2 hne k hk hk2 => ?_, h.fx, fun j q hq => ?_⟩
  · rcases get j q hq with ⟨_, hq⟩ | ⟨_, hq⟩
    · exact h.ok j q hq
    · exact (h2.ok _ q hq).mono hBN
  · rcases get j1 q1 e1 with ⟨l1, e1⟩ | ⟨l1, e1⟩ <;> rcases get j2 q2 e2 with ⟨l2, e2⟩ | ⟨l2, e2⟩
    · exact h.ap j1 j2 q1 q2 e1 e2 hne k hk hk2
    · have a1 := hN j1 q1 e1 k hk; have a2 := ((h2.ok _ q2 e2).lt k hk2).1; omega
    · have a1 := hN j2 q2 e2 k hk2; have a2 := ((h2.ok _ q1 e1).lt k hk).1; omega
    · exact h2.ap _ _ q1 q2 e1 e2 (by omega) k hk hk2
  · rcases get j q hq with ⟨_, hq⟩ | ⟨_, hq⟩
    · exact h.fa j q hq
    · exact h2.fa _ q hq
theorem Rws.os {B : Nat} {w : World} {s : St} {lo lp : List Upd} {ls : List Slot} {F : List Nat} (h : OS B w s lo lp ls) (hF : ∀ g ∈ F, g < w.heap.size) (hFa : ∀ g ∈ F, g < B ∨ (∀ k, s.ours.v.ownBlock = some k ∨ s.peers.v.ownBlock = some k ∨ s.shelf.v.ownBlock = some k → k ≠ g)) : Rws B w [.u s.ours lo, .u s.peers lp, .f s.shelf ls] F := by
  have get : ∀ (j : Nat) (q : Rw), [Rw.u s.ours lo, Rw.u s.peers lp, Rw.f s.shelf ls][j]? = some q → (j = 0 ∧ q = Rw.u s.ours lo) ∨ (j = 1 ∧ q = Rw.u s.peers lp) ∨ (j = 2 ∧ q = Rw.f s.shelf ls) := fun j q hq => by
    match j, hq with
    | 0, hq => exact .inl ⟨rfl, (Option.some.inj hq).symm⟩
    | 1, hq => exact .inr (.inl ⟨rfl, (Option.some.inj hq).symm⟩)
    | 2, hq => exact .inr (.inr ⟨rfl, (Option.some.inj hq).symm⟩)
  have fa : ∀ k, (s.ours.v.ownBlock = some k ∨ s.peers.v.ownBlock = some k ∨ s.shelf.v.ownBlock = some k) → k ∉ F := fun k hk hF' => by
    rcases hFa k hF' with h1 | h1
    · have : B ≤ k := by
        rcases hk with hk | hk | hk
        · exact (h.o.lt k hk).1
        · exact (h.p.lt k hk).1
        · exact (h.f.lt k hk).1
      omega
    · exact h1 k hk rfl
  refine ⟨fun j q hq => ?_, fun j1 j2 q1 q2 e1 e2 hne k hk hk2 => ?_, hF, fun j q hq k hk => ?_⟩
  · rcases get j q hq with ⟨_, rfl⟩ | ⟨_, rfl⟩ | ⟨_, rfl⟩
    · exact h.o
    · exact h.p
    · exact h.f
  · rcases get j1 q1 e1 with ⟨l1, rfl⟩ | ⟨l1, rfl⟩ | ⟨l1, rfl⟩ <;> rcases get j2 q2 e2 with ⟨l2, rfl⟩ | ⟨l2, rfl⟩ | ⟨l2, rfl⟩ <;> first | omega | skip
    · exact h.op k hk hk2
    · exact h.os k hk hk2
    · exact h.op k hk2 hk
    · exact h.ps k hk hk2
    · exact h.os k hk2 hk
    · exact h.ps k hk2 hk
  · rcases get j q hq with ⟨_, rfl⟩ | ⟨_, rfl⟩ | ⟨_, rfl⟩
    · exact fa k (.inl hk)
    · exact fa k (.inr (.inl hk))
    · exact fa k (.inr (.inr hk))
end Go.Proofs.YtlohfoggcdaeiaaGreat
