/-
  The law's own: lend, kept, more; copy of updates; operations of a drawn region.
-/
import Derived.Test.YtbeoojnofblnjaaGDoc2
import Derived.Deep.RegionHeld3
import Derived.Deep.DrawnRows
import Derived.Laws.CopyRow
namespace Go.Proofs.Ytbeoojnofblnjaa
open Go.RowKit S
set_option linter.unusedVariables false
set_option linter.unusedSimpArgs false
theorem takeH {P : Program} {ops : Array Oper} {Q : Exit → Act → World → Prop} {md : Region.Mode} {S : World → Prop} (i : Nat) (d : Option Tmp) (v : Value) {oi : Oper} {fuel : Nat} {listed : Array Bool} {a : Act} {w : World} (hi : ops[i]? = some oi) (hd : oi.dst = d)
    (hs : Region.noSelect ops = true) (hf : Region.free md ops listed i = true) (hr : (Region.ready md ops listed).contains i = true)
    (hQ : ∀ c a w, Q (.panic c) (a.put oi.dst v) w → Q (.panic c) a w) (hw : Region.wanted oi (yielded ops a.tmps) = true) (hy : ∀ w, S w → (execOp a.eval oi).run P w = .ok (.value v) w) (hS : S w)
    (h : wpAnyH P md ops Q S fuel (listed.setIfInBounds i true) (a.put d v) w) : wpAnyH P md ops Q S (fuel + 1) listed a w :=
  wpAnyH_take hi hs hf hr hQ (.inl ⟨hw, hy⟩) hS (by rw [hd]; exact h)
theorem skH {P : Program} {ops : Array Oper} {Q : Exit → Act → World → Prop} {md : Region.Mode} {S : World → Prop} (i : Nat) (d : Option Tmp) {oi : Oper} {fuel : Nat} {listed : Array Bool} {a : Act} {w : World} (hi : ops[i]? = some oi)
    (hS : S w) (h : wpAnyH P md ops Q S fuel (listed.setIfInBounds i true) (a.put d undef) w) (hd : oi.dst = d := by rfl)
    (hs : Region.noSelect ops = true := by kernel_rfl) (hf : Region.free md ops listed i = true := by kernel_rfl) (hr : (Region.ready md ops listed).contains i = true := by kernel_rfl)
    (hQ : ∀ c a w, Q (.panic c) (a.put oi.dst undef) w → Q (.panic c) a w := by exact fun _ _ _ h => h) (hw : Region.wanted oi (yielded ops a.tmps) = false := by rfl) : wpAnyH P md ops Q S (fuel + 1) listed a w :=
  wpAnyH_take hi hs hf hr hQ (.inr ⟨hw, rfl⟩) hS (by rw [hd]; exact h)
def mark7 : Upd := ⟨-7, 0, 0, fun _ => 0, nilB⟩
set_option maxRecDepth 100000 in
theorem built_m7 : Try.prog.built 43 [(0, .int .i64 (-7))] = some (tabv mark7.v 36) := by kernel_rfl
/-- What lend answers: the updates, with a mark behind them in the spare room. -/
def Lend (B : Nat) (w : World) (v : Value) (l : List Upd) : Prop := ∃ g cap, v = .slice (some ⟨g, 0, none⟩) l.length cap ∧ OwnU B w (.slice (some ⟨g, 0, none⟩) (l.length + 1) cap) (l ++ [mark7])
-- left out in this seat: lend_any
theorem Lend.below {B B' : Nat} {w w' : World} {v : Value} {l : List Upd} (h : Lend B w v l) (hb : Below B' w w') (hB : w.heap.size ≤ B') : Lend B w' v l := by
  obtain ⟨g, cap, h1, h2⟩ := h
  exact ⟨g, cap, h1, h2.below hb hB⟩
theorem Lend.form {B : Nat} {w : World} {v : Value} {l : List Upd} (h : Lend B w v l) : ∃ g cap, v = .slice (some ⟨g, 0, none⟩) l.length cap ∧ OwnU B w (.slice (some ⟨g, 0, none⟩) (l.length + 1) cap) (l ++ [mark7]) ∧ Upds w (some ⟨g, 0, none⟩) (l ++ [mark7]) ∧ Upds w (some ⟨g, 0, none⟩) l ∧ l.length + 1 ≤ cap ∧ g < w.heap.size ∧ B ≤ g := by
  obtain ⟨g, cap, rfl, h2⟩ := h
  have hlen : (l ++ [mark7]).length = l.length + 1 := by simp
  obtain ⟨ad, c, e, hs, hlt, hc, hm⟩ := h2.upds
  rw [hlen] at e
  cases e
  have hb := hlt _ rfl
  refine ⟨g, cap, rfl, h2, hs, .inr ⟨g, 0, rfl, hb.1, fun i s hi => ?_⟩, by rw [hlen] at hc; exact hc, hb.1, hb.2⟩
  have hil : i < l.length := (List.getElem?_eq_some_iff.1 hi).1
  obtain ⟨b', o', e', _, hA⟩ := hs.get i s (by rw [List.getElem?_append_left hil]; exact hi)
  cases e'
  exact hA
-- left out in this seat: kept_any
def flipI (a : Int) : Int := bits .xor .i64 a 1
def flipU (u : Upd) : Upd := ⟨u.kind, u.id, flipI u.amt, u.hash, u.note⟩
theorem Has.flip {w : World} {g : Nat} {s : Upd} (h : Has w g 43 s.v 36) : Has (w.setCell ⟨g, 2, none⟩ (.int .i64 (flipI s.amt))) g 43 (flipU s).v 36 :=
  (h.set 2 (.int .i64 (flipI s.amt))).congr _ (fun i hi => by unfold upd; by_cases e : i = 2
                                                              · subst e; rw [if_pos rfl]; rfl
                                                              · rw [if_neg e]; unfold Upd.v flipU; simp only; split <;> first | rfl | (split <;> first | rfl | (split <;> first | omega | rfl)))
theorem flip_next {l : List Upd} {j : Nat} {x : Upd} (h : l[j]? = some x) : (l.take (j + 1)).map flipU = (l.take j).map flipU ++ [flipU x] := by rw [take_snoc h, List.map_append]; rfl
-- left out in this seat: more_any
/-- copy(x, v): an own row written over by another of the same length; what stands behind stays. -/
theorem run_copyU (w : World) (ty : TypeId) (g cap B B2 : Nat) (v : Value) (l l2 tl : List Upd) (ho : OwnU B w (.slice (some ⟨g, 0, none⟩) (l.length + tl.length) cap) (l ++ tl)) (h2 : OwnU B2 w v l2) (hl : l2.length = l.length) :
    ∃ w', (Builtin.copy_ #[25, 25] ty #[.slice (some ⟨g, 0, none⟩) l.length cap, v]).run Try.prog w = .ok (goInt l.length) w' ∧ OwnU B w' (.slice (some ⟨g, 0, none⟩) (l.length + tl.length) cap) (l2 ++ tl) ∧ Keep (· = g) w w' := by
  obtain ⟨i, i1, i2, i3, i4⟩ := infoUP
  obtain ⟨ad, c2, rfl, hU, hlt, hc, hm⟩ := h2.upds
  have hlen : (l ++ tl).length = l.length + tl.length := List.length_append
  have hlen2 : (l2 ++ tl).length = l.length + tl.length := by rw [List.length_append, hl]
  unfold OwnU at ho ⊢
  rw [hlen] at ho
  rw [hlen2]
  obtain ⟨hB, ⟨e, _⟩ | ⟨g', cp, cur, e, hge, hg, hcp, hmx, hsz, htk⟩⟩ := ho
  · cases e
  · cases e
    cases ad with
    | none =>
      have hl0 : l2 = [] := by
        rcases hU with rfl | ⟨b, o, h, _⟩
        · rfl
        · cases h
      subst hl0
      have hl1 : l = [] := List.length_eq_zero_iff.1 hl.symm
      subst hl1
      refine ⟨w, ?_, ⟨hB, .inr ⟨g, cap, cur, rfl, hge, hg, hcp, hmx, hsz, htk⟩⟩, Keep.refl _ _⟩
      simp [Builtin.copy_, run_underlying Try.underlying25, Builtin.lenOf, Builtin.firstCells, sizeOf, typeInfo, i1, i3, storeCells]
    | some a =>
      have hsrc : ∀ j v, (cellsU l2)[j]? = some v → w.cell? (a.add j) = some v := fun j u hj => by
        have hjl : j < l2.length * 36 := by have := (List.getElem?_eq_some_iff.1 hj).1; rw [cellsU_length] at this; exact this
        rcases hU with rfl | ⟨b, o, ha, _, h⟩
        · simp at hjl
        · cases ha
          have hk : j / 36 < l2.length := by omega
          have hs : l2[j / 36]? = some l2[j / 36] := List.getElem?_eq_getElem hk
          have hc := h (j / 36) _ hs (j % 36) (by omega)
          have hg := cellsU_get l2 (j / 36) _ hs (j % 36) (by omega)
          rw [show j / 36 * 36 + j % 36 = j by omega, hj] at hg
          have hadd : (⟨b, o, none⟩ : Addr).add j = ⟨b, o + j, none⟩ := by unfold Addr.add; split <;> simp_all
          rw [hadd, hg, ← hc, show o + j / 36 * 36 + j % 36 = o + j by omega]
      have hL := run_loadCells_list (P := Try.prog) w a (cellsU l2) hsrc
      have hn : (cellsU l2).length = l.length * 36 := by rw [cellsU_length, hl]
      have hst := run_storeCells_at Try.prog g 0 43 (cellsU l2) 0 cur w hg (by rw [hn, hsz]; omega) (oneCell_U _)
      rw [hn] at hL
      refine ⟨w.setRow g (cur.toList.take (0 + 0) ++ cellsU l2 ++ cur.toList.drop (0 + 0 + (cellsU l2).length)).toArray, ?_, ⟨?_, .inr ⟨g, cap, (cur.toList.take (0 + 0) ++ cellsU l2 ++ cur.toList.drop (0 + 0 + (cellsU l2).length)).toArray, rfl, hge, setRow_heap w g cur _ _ _ hg, ?_, hmx, ?_, ?_⟩⟩, ?_⟩
      · simp [Builtin.copy_, run_underlying Try.underlying25, Builtin.lenOf, Builtin.firstCells, sizeOf, typeInfo, i1, i3, hl, hL, hst]
      · rw [cellsU_length, hlen2]
      · exact hcp
      · simp only [List.size_toArray, List.length_append, List.length_take, List.length_drop, Array.length_toList, hn, hsz]; omega
      · have e1 : cur.toList.take 0 = [] := rfl
        have e2 : cur.toList.drop (0 + 0 + l.length * 36) = cur.toList.drop (l.length * 36) := by simp
        have e3 : (cur.toList.drop (l.length * 36)).take (tl.length * 36) = cellsU tl := by
          have h := congrArg (List.drop (l.length * 36)) htk
          rw [List.drop_take, cellsU_append, List.drop_left' (by rw [cellsU_length])] at h
          rw [← h]; congr 1; rw [Nat.add_mul]; omega
        simp only [Nat.add_zero, e1, List.nil_append, hn, Nat.zero_add]
        rw [cellsU_append, List.take_append, List.take_of_length_le (by rw [hn, Nat.add_mul]; omega), hn, show (l.length + tl.length) * 36 - l.length * 36 = tl.length * 36 by rw [Nat.add_mul]; omega, e3]
      · exact ⟨rfl, rfl, rfl, by simp, fun k hk hne => setRow_other w g k _ hne⟩
end Go.Proofs.Ytbeoojnofblnjaa
