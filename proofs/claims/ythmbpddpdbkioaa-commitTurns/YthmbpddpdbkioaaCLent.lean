/-
  lent, kept (printed by gen_c12.py).
-/
import Derived.Test.YthmbpddpdbkioaaCSame
import Derived.Test.YthmbpddpdbkioaaGLast
import Derived.Test.YthmbpddpdbkioaaCFirst
namespace Go.Proofs.Ythmbpddpdbkioaa
open Go.RowKit S
set_option linter.unusedVariables false
set_option linter.unusedSimpArgs false
def mk77 : Pen := ⟨false, -77, 0, fun _ => 0⟩
set_option maxRecDepth 100000 in
theorem built_77 : Try.prog.built 36 [(1, .int .i64 (-77))] = some (tabv mk77.v 35) := by kernel_rfl
theorem OwnP.some_ {B : Nat} {w : World} {v : Value} {l : List Pen} (h : OwnP B w v l) (hl : 0 < l.length) : ∃ g cap, v = .slice (some ⟨g, 0, none⟩) l.length cap ∧ l.length ≤ cap ∧ B ≤ g ∧ g < w.heap.size := by
  have hb := h.lt
  obtain ⟨_, ⟨rfl, hn⟩ | ⟨g, cap, cur, rfl, hb', hg, h1, h2, h3, h4⟩⟩ := h
  · omega
  · exact ⟨g, cap, rfl, h1, (hb g rfl).1, (hb g rfl).2⟩
theorem Pens.left {w : World} {ad : Option Addr} {l t : List Pen} (h : Pens w ad (l ++ t)) : Pens w ad l := by
  rcases h with h | ⟨b, o, h1, h2, h3⟩
  · exact .inl (List.append_eq_nil_iff.1 h).1
  · exact .inr ⟨b, o, h1, h2, fun i s hs => h3 i s (by rw [List.getElem?_append_left (List.getElem?_eq_some_iff.1 hs).1]; exact hs)⟩
theorem run_app_allP (w : World) (ad : Option Addr) (cap : Nat) (l : List Pen) (hS : Pens w ad l) (hz : l.length ≤ 3910000000000) :
    ∃ v' w', (Builtin.append_ #[22, 22] 22 #[.slice none 0 0, .slice ad l.length cap]).run Try.prog w = .ok v' w' ∧ OwnP w.heap.size w' v' l ∧ Below w.heap.size w w' := by
  obtain ⟨i, h1, h2, h3, h4⟩ := infoPP
  cases ad with
  | none =>
    have hl : l = [] := by
      rcases hS with rfl | ⟨b, o, h, _⟩
      · rfl
      · cases h
    subst hl
    refine ⟨.slice none 0 0, w, ?_, OwnP.nil _ _, Below.refl _ _⟩
    simp [Builtin.append_, run_underlying Try.underlying22, sizeOf, typeInfo, h1, Builtin.lenOf, Builtin.firstCells, storeCells, loadCells, loadCellsFrom]
  | some a =>
    obtain ⟨v', w', e1, e2, e3, _⟩ := run_append_own_wide (P := Try.prog) w w.heap.size 22 22 36 i _ 35 56 Try.underlying22 h1 h2 h3 h4 (by rfl) (by omega) (.slice none 0 0) 0 [] (World.ownsRow_nil w _ _ _) a l.length cap (cellsP l) (cellsP_length l)
      (fun j u hj => by
        have hjl : j < l.length * 35 := by have := (List.getElem?_eq_some_iff.1 hj).1; rw [cellsP_length] at this; exact this
        rcases hS with rfl | ⟨b, o, ha, _, h⟩
        · simp at hjl
        · cases ha
          have hk : j / 35 < l.length := by omega
          have hs : l[j / 35]? = some l[j / 35] := List.getElem?_eq_getElem hk
          have hc := h (j / 35) _ hs (j % 35) (by omega)
          have hg := cellsP_get l (j / 35) _ hs (j % 35) (by omega)
          rw [show j / 35 * 35 + j % 35 = j by omega, hj] at hg
          have hadd : (⟨b, o, none⟩ : Addr).add j = ⟨b, o + j, none⟩ := by unfold Addr.add; split <;> simp_all
          rw [hadd, hg]
          unfold Pen.enc
          rw [Array.getElem?_toList, tabv_get _ _ _ (by omega), ← hc, show o + j / 35 * 35 + j % 35 = o + j by omega])
      (fun u hu => by
        unfold cellsP at hu
        obtain ⟨s, _, hs⟩ := List.mem_flatMap.1 hu
        exact s.one u hs) (by unfold maxLen; omega) (by omega) (Nat.le_refl _)
    refine ⟨v', w', e1, ?_, ⟨e3.os, e3.tape, e3.output, e3.size, fun k hk => e3.block k hk (by simp [Value.ownBlock])⟩⟩
    have e2' : w'.ownsRow w.heap.size 36 35 v' (0 + l.length) ([] ++ cellsP l) := e2
    rw [Nat.zero_add, List.nil_append] at e2'
    exact e2'
/-- What lent answers. -/
def LnPost (x y : Int) (l : List Pen) (n : Nat) (w : World) (e : Ending) (w' : World) : Prop := ∃ q cq, e = .returned (.agg (tabv (ledv x y (.slice (some ⟨q, 0, none⟩) n cq)) 3)) ∧ OwnP w.heap.size w' (.slice (some ⟨q, 0, none⟩) (n + 1) cq) (l ++ [mk77]) ∧ n + 1 ≤ cq ∧ Below w.heap.size w w'
theorem lnPost {x y : Int} {l : List Pen} {n : Nat} {w : World} {e : Ending} {w' : World} (q cq : Nat) (h1 : e = .returned (.agg (tabv (ledv x y (.slice (some ⟨q, 0, none⟩) n cq)) 3))) (h2 : OwnP w.heap.size w' (.slice (some ⟨q, 0, none⟩) (n + 1) cq) (l ++ [mk77])) (h3 : n + 1 ≤ cq) (h4 : Below w.heap.size w w') : LnPost x y l n w e w' := ⟨q, cq, h1, h2, h3, h4⟩
-- left out in this seat: lent_any
-- left out in this seat: kept_any
end Go.Proofs.Ythmbpddpdbkioaa
