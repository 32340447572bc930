/-
  Lists of the caller's own: grown, written.
-/
import Derived.Test.YtlkimfmilccanaaGreatFirst
namespace Go.Proofs.YtlkimfmilccanaaGreat
open Go.RowKit Go.Maps Go.WideMaps
set_option linter.unusedVariables false
set_option linter.unusedSimpArgs false
section
variable {t e : TypeId} {z : Value} {by_ : Nat}
/-- append(v, x...) onto a list of the caller's own, of one cell an element. -/
theorem run_append_rows (ht : Tryz.prog.underlying t = some (.slice e)) (hinf : (Tryz.prog.info? e).map (fun i => (i.zero, i.size, i.bytes)) = some (some z, 1, by_)) (hzc : z.cells.size = 1) (hby : 1 ≤ by_)
    (w : World) (ty tx : TypeId) (v : Value) (l news : List Value) (hown : w.ownsRow 0 e 1 v l.length l) (x : Value) (hs : Src Tryz.prog 1 tx x news.length news w) (hlen : (l.length + news.length) * by_ ≤ 140737488355328) :
    ∃ v' w', (Builtin.append_ #[t, tx] ty #[v, x]).run Tryz.prog w = .ok v' w' ∧ w'.ownsRow 0 e 1 v' (l ++ news).length (l ++ news) ∧ Mv w v w' v' := by
  obtain ⟨i, hi, hz0, hz1, hz2⟩ := info_parts hinf
  rw [← hz1] at hs
  have hlen0 : l.length + news.length ≤ 140737488355328 := Nat.le_trans (Nat.le_mul_of_pos_right _ hby) hlen
  by_cases hn : news = []
  · subst hn
    have hh := hown.2
    rcases hh with ⟨rfl, hl⟩ | ⟨g, cap, cur, rfl, hb, hg, hnc, hcm, hcs, htake⟩
    · exact ⟨_, _, run_append_nothing (P := Tryz.prog) w t tx ty e i ht hi none 0 0 (Nat.le_refl _) x hs, by rw [List.append_nil]; exact hown, Mv.refl _ _⟩
    · exact ⟨_, _, run_append_nothing (P := Tryz.prog) w t tx ty e i ht hi (some ⟨g, 0, none⟩) l.length cap hnc x hs, by rw [List.append_nil]; exact hown, Mv.refl _ _⟩
  have hpos : 0 < news.length := List.length_pos_iff.2 hn
  have grown : ∀ (old : Nat), old < l.length + news.length →
      (w.drew.alloc (.cells ((l ++ news).toArray ++ Builtin.zeroCells z.cells (grownCap w (l.length + news.length) old e - (l.length + news.length))) e)).ownsRow 0 e 1
        (.slice (some ⟨w.heap.size, 0, none⟩) (l.length + news.length) (grownCap w (l.length + news.length) old e)) (l ++ news).length (l ++ news) ∧
      ∀ row : Option Nat, w.grownBy (w.drew.alloc (.cells ((l ++ news).toArray ++ Builtin.zeroCells z.cells (grownCap w (l.length + news.length) old e - (l.length + news.length))) e)) row := by
    intro old ho
    have hge := grownCap_ge w (l.length + news.length) old e
    have hcm : grownCap w (l.length + news.length) old e ≤ maxLen := grownCap_le_maxLen w _ old e (by unfold maxLen; omega)
    refine ⟨?_, fun row => ⟨rfl, rfl, rfl, by simp, fun k hk _ => Below.heap_alloc w.drew _ k hk⟩⟩
    rw [List.length_append]
    refine ⟨by simp, .inr ⟨w.heap.size, _, _, rfl, Nat.zero_le _, heap_alloc_new w.drew _, hge, hcm, ?_, ?_⟩⟩
    · simp only [Array.size_append, List.size_toArray, size_zeroCells, List.length_append]
      rw [hzc]
      omega
    · rw [Array.toList_append]
      have e : (l.length + news.length) * 1 = (l ++ news).length := by simp
      rw [e]
      exact List.take_left
  have hh := hown.2
  rcases hh with ⟨rfl, hl⟩ | ⟨g, cap, cur, rfl, hb, hg, hnc, hcm, hcs, htake⟩
  · have hl0 : l = [] := List.length_eq_zero_iff.1 hl
    subst hl0
    have hr := run_append_grow_src (P := Tryz.prog) w t tx ty e i z ht hi hz0 none 0 0 [] (run_firstCells_none w.drew i.size 0 0 0) x news.length news hs (by omega) (by omega) (by
      rw [hz2, Nat.zero_add, nextslicecap_zero hpos]; simp only [List.length_nil, Nat.zero_add] at hlen; omega)
    obtain ⟨g1, g2⟩ := grown 0 (by omega)
    simp only [List.length_nil, Nat.zero_add, List.nil_append] at g1 g2 hr
    refine ⟨_, _, hr, by simpa using g1, g2 _, fun g' hg' => .inr ?_⟩
    have e : g' = w.heap.size := by simpa [Value.ownBlock] using hg'.symm
    omega
  · have hc := World.ownsRow.cells hown (g := g) rfl
    by_cases hroom : l.length + news.length ≤ cap
    · have hst := run_storeCells_at Tryz.prog g (l.length * i.size) e news 0 cur w hg (by simp [hz1]; omega) hs.one
      rw [Nat.add_zero] at hst
      have hr : (Builtin.append_ #[t, tx] ty #[.slice (some ⟨g, 0, none⟩) l.length cap, x]).run Tryz.prog w = .ok (.slice (some ⟨g, 0, none⟩) (l.length + news.length) cap) (w.setRow g (cur.toList.take (l.length * i.size) ++ news ++ cur.toList.drop (l.length * i.size + news.length)).toArray) := by
        rcases hs.kind with ⟨e', hk⟩ | hk <;> simp [Builtin.append_, run_underlying ht, run_underlying hk, sizeOf, typeInfo, hi, hs.len, hroom, hs.cells, Addr.add_lit, hst]
      refine ⟨_, _, hr, ?_, ⟨rfl, rfl, rfl, by simp, fun k _ hk => setRow_other w g k _ (fun e => hk (by simp [Value.ownBlock, e]))⟩, fun g' hg' => .inl ?_⟩
      · rw [List.length_append]
        refine ⟨by simp, .inr ⟨g, cap, _, rfl, hb, setRow_heap w g cur _ e _ hg, hroom, hcm, ?_, ?_⟩⟩
        · simp only [List.size_toArray, List.length_append, List.length_take, List.length_drop, Array.length_toList, hz1]
          omega
        · rw [hz1, htake]
          have e : (l.length + news.length) * 1 = (l ++ news).length := by simp
          rw [e]
          exact List.take_left
      · simpa [Value.ownBlock] using hg'
    · have hr := run_append_grow_src (P := Tryz.prog) w t tx ty e i z ht hi hz0 (some ⟨g, 0, none⟩) l.length cap l (by
        have := run_firstCells_some (P := Tryz.prog) w.drew i.size l.length ⟨g, 0, none⟩ l.length cap l (by simp [hz1]) hc
        exact this) x news.length news hs (by omega) (by omega) (growslice_fits (by omega) (by rw [hz2]; omega))
      obtain ⟨g1, g2⟩ := grown cap (by omega)
      refine ⟨_, _, hr, g1, g2 _, fun g' hg' => .inr ?_⟩
      have e : g' = w.heap.size := by simpa [Value.ownBlock] using hg'.symm
      omega
/-- What a list yields. -/
theorem src_row {tx : TypeId} (hk : Tryz.prog.underlying tx = some (.slice e)) {w : World} {x : Value} {news : List Value} (h : w.ownsRow 0 e 1 x news.length news) (h1 : ∀ u ∈ news, u.oneCell' = true) : Src Tryz.prog 1 tx x news.length news w := by
  have hh := h.2
  rcases hh with ⟨rfl, hl⟩ | ⟨g, cap, cur, rfl, hb, hg, rest⟩
  · have : news = [] := List.length_eq_zero_iff.1 hl
    subst this
    exact Src.ofNil w hk 0
  · exact Src.ofSlice w hk ⟨g, 0, none⟩ news.length cap news (by simp) (World.ownsRow.cells h rfl) h1
end
section
variable {B : Nat} {w : World} {L : List Item} {i : Nat} {e : TypeId} {v : Value} {xs : List Value}
theorem Lies.rowOf (h : Lies B w L) (hi : L[i]? = some (.row e v xs)) : w.ownsRow 0 e 1 v xs.length xs := by
  obtain ⟨S, hp, _⟩ := h.get hi
  exact hp.1
theorem Lies.pushNil (h : Lies B w L) (e : TypeId) : Lies B w (L ++ [.row e (.slice none 0 0) []]) :=
  h.push (S' := fun b => (Value.slice none 0 0).ownBlock = some b) (Below.refl _ _) ⟨World.ownsRow_nil w 0 e 1, fun _ => Iff.rfl⟩ (fun b hb => by simp [Value.ownBlock] at hb)
/-- One of the lists has grown, or was moved. -/
theorem Lies.moved {w' : World} {v' : Value} {ys : List Value} (h : Lies B w L) (hi : L[i]? = some (.row e v xs)) (hr : w'.ownsRow 0 e 1 v' ys.length ys) (hm : Mv w v w' v') : Lies B w' (L.set i (.row e v' ys)) ∧ Below B w w' := by
  obtain ⟨S, hp, hB, hap, hk⟩ := h.upd hi
  refine hk w' _ (fun b => v'.ownBlock = some b) ⟨hr, fun _ => Iff.rfl⟩ ⟨⟨hm.gr.os, hm.gr.tape, hm.gr.output, hm.gr.size, fun b hb hn => hm.gr.block b hb (fun x => hn ((hp.2 b).2 x.symm))⟩, fun b hb => ?_⟩
  rcases hm.own b hb with x | x
  · exact .inl ((hp.2 b).2 x)
  · exact .inr x
theorem own_form {n cap : Nat} {ad : Option Addr} (h : w.ownsRow 0 e 1 (.slice ad n cap) n xs) (hn : 0 < n) : ∃ g, ad = some ⟨g, 0, none⟩ := by
  rcases h.2 with ⟨h1, h2⟩ | ⟨g, cp, cur, h1, _⟩
  · omega
  · simp only [Value.slice.injEq] at h1
    exact ⟨g, h1.1⟩
theorem Lies.store {g n cap : Nat} (h : Lies B w L) (hi : L[i]? = some (.row e (.slice (some ⟨g, 0, none⟩) n cap) xs)) (hn : xs.length = n) (j : Nat) (u : Value) :
    Lies B (w.setCell ⟨g, j, none⟩ u) (L.set i (.row e (.slice (some ⟨g, 0, none⟩) n cap) (xs.set j u))) ∧ Below B w (w.setCell ⟨g, j, none⟩ u) := by
  subst hn
  obtain ⟨h1, h2⟩ := World.ownsRow.stored (h.rowOf hi) j u
  have h1' : (w.setCell ⟨g, j, none⟩ u).ownsRow 0 e 1 (.slice (some ⟨g, 0, none⟩) xs.length cap) (xs.set j u).length (xs.set j u) := by rw [List.length_set]; exact h1
  exact h.moved hi h1' ⟨h2, fun _ hx => .inl hx⟩
end
theorem info3' : (Tryz.prog.info? 3).map (fun i => (i.zero, i.size, i.bytes)) = some (some (.int .i64 0), 1, 8) := by kernel_rfl
theorem info9' : (Tryz.prog.info? 9).map (fun i => (i.zero, i.size, i.bytes)) = some (some (.string ⟨#[]⟩), 1, 16) := by kernel_rfl
def fillTo (xs : List Value) (k : Nat) (x : Value) : List Value := List.replicate k x ++ xs.drop k
theorem fillTo_zero (xs : List Value) (x : Value) : fillTo xs 0 x = xs := rfl
theorem fillTo_length (xs : List Value) (k : Nat) (x : Value) (h : k ≤ xs.length) : (fillTo xs k x).length = xs.length := by simp [fillTo]; omega
theorem fillTo_all (xs : List Value) (x : Value) : fillTo xs xs.length x = List.replicate xs.length x := by simp [fillTo]
theorem fillTo_set (xs : List Value) (k : Nat) (x : Value) (h : k < xs.length) : (fillTo xs k x).set k x = fillTo xs (k + 1) x := by
  unfold fillTo
  rw [List.set_append_right _ _ (by simp), List.length_replicate, Nat.sub_self, List.drop_eq_getElem_cons h, List.set_cons_zero, List.replicate_succ']
  simp
end Go.Proofs.YtlkimfmilccanaaGreat
