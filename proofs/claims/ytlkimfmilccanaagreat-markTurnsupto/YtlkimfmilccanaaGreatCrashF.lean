/-
  file.crash.
-/
import Derived.Test.YtlkimfmilccanaaGreatCrashA
namespace Go.Proofs.YtlkimfmilccanaaGreat
open Go.RowKit Go.Maps Go.WideMaps
set_option linter.unusedVariables false
set_option linter.unusedSimpArgs false
theorem after_kept {F : AF} {ls : List FT} {k : Key} {s i : Nat} (hd : F.dirty s = true) (hi : i / 64 = s) (hk : (yOf ls k s).kind = 1) : F.after (ftOf ls k) i = F.seen.getD i 0 := by
  unfold AF.after ftOf
  rw [hi, hd, if_pos rfl, firstF_abs]
  unfold yOf at hk
  cases hq : firstF ls k (s : Int) with
  | none => rw [hq] at hk; exact absurd hk (by decide)
  | some x => rw [hq] at hk; exact if_pos hk
theorem after_repl {F : AF} {ls : List FT} {k : Key} {s i : Nat} (hd : F.dirty s = true) (hi : i / 64 = s) (hk : (yOf ls k s).kind = 2) : F.after (ftOf ls k) i = (yOf ls k s).bytes.data.toList.getD (i % 64) 0 := by
  unfold AF.after ftOf
  rw [hi, hd, if_pos rfl, firstF_abs]
  unfold yOf at hk ⊢
  cases hq : firstF ls k (s : Int) with
  | none => rw [hq] at hk; exact absurd hk (by decide)
  | some x =>
    rw [hq] at hk
    have h1 : x.kind = 2 := hk
    show (if x.kind = 1 then _ else if x.kind = 2 then _ else _) = _
    rw [if_neg (by omega), if_pos h1]; rfl
theorem after_lost {F : AF} {ls : List FT} {k : Key} {s i : Nat} (hd : F.dirty s = true) (hi : i / 64 = s) (h1 : (yOf ls k s).kind ≠ 1) (h2 : (yOf ls k s).kind ≠ 2) : F.after (ftOf ls k) i = F.safe.getD i 0 := by
  unfold AF.after ftOf
  rw [hi, hd, if_pos rfl, firstF_abs]
  unfold yOf at h1 h2
  cases hq : firstF ls k (s : Int) with
  | none => rfl
  | some x =>
    rw [hq] at h1 h2
    have h1' : x.kind ≠ 1 := h1
    have h2' : x.kind ≠ 2 := h2
    show (if x.kind = 1 then _ else if x.kind = 2 then _ else _) = _
    rw [if_neg h1', if_neg h2']
/-- What the copy of a kept sector leaves. -/
theorem kept_step {F : AF} (h : F.Ok) {ls : List FT} {k : Key} {left : Lit → Bool} {s : Nat} (hd : F.dirty s = true) (hk : (yOf ls k s).kind = 1) {L N : Nat} (hL : F.len (ftOf ls k) = L) (hN : F.seen.length = N) :
    (crashNot F (ftOf ls k) left).take (sFrom s L) ++ (F.seen.drop (sFrom s N)).take (Nat.min (sTo s N - sFrom s N) (sTo s L - sFrom s L)) ++ (crashNot F (ftOf ls k) left).drop (sFrom s L + Nat.min (sTo s N - sFrom s N) (sTo s L - sFrom s L)) = crashNot F (ftOf ls k) (fun z => left z && !z.sameKey (.int .i64 (s : Int))) := by
  have hh : hits (ftOf ls k s) = true := by rw [hits_y, hk]; rfl
  obtain ⟨p1, p2, p3⟩ := piece_same h hd hh
  rw [hL] at p1 p3
  rw [hN] at p2 p3
  have h2 := sTo_le s N
  have h4 : sTo s L = min (sFrom s L + 64) L := rfl
  have e : Nat.min (sTo s N - sFrom s N) (sTo s L - sFrom s L) = sTo s L - sFrom s L := by rw [p1, p2, p3]; exact Nat.min_self _
  have hlen : ((F.seen.drop (sFrom s N)).take (sTo s L - sFrom s L)).length = sTo s L - sFrom s L := by rw [List.length_take, List.length_drop, hN]; omega
  rw [e]
  have := seg_step (F := F) (ft := ftOf ls k) (left := left) (s := s) hd ((F.seen.drop (sFrom s N)).take (sTo s L - sFrom s L)) (by rw [hL]; exact hlen) (fun i h1 hi2 => ?_)
  · rw [hL, hlen] at this; exact this
  · rw [hL] at h1 hi2 ⊢
    rw [List.getElem?_take_of_lt (by omega), List.getElem?_drop, p2, p1]
    have e3 : 64 * s + (i - 64 * s) = i := by omega
    rw [e3, after_kept hd (by omega) hk, getD_at (by omega)]
theorem repl_step {F : AF} (h : F.Ok) {ls : List FT} {k : Key} {left : Lit → Bool} {s : Nat} (hd : F.dirty s = true) (hk : (yOf ls k s).kind = 2) {L : Nat} (hL : F.len (ftOf ls k) = L) (l1 : List UInt8) (hl1 : l1 = (crashNot F (ftOf ls k) left).take (sFrom s L) ++ List.replicate (sTo s L - sFrom s L) 0 ++ (crashNot F (ftOf ls k) left).drop (sFrom s L + (sTo s L - sFrom s L))) :
    l1.take (sFrom s L) ++ (yOf ls k s).bytes.data.toList.take (sTo s L - sFrom s L) ++ l1.drop (sFrom s L + ((yOf ls k s).bytes.data.toList.take (sTo s L - sFrom s L)).length) = crashNot F (ftOf ls k) (fun z => left z && !z.sameKey (.int .i64 (s : Int))) := by
  have hh : hits (ftOf ls k s) = true := by rw [hits_y, hk]; rfl
  obtain ⟨p1, _, _⟩ := piece_same h hd hh
  rw [hL] at p1
  have h1 := sFromTo s L
  have h2 := sTo_le s L
  have h4 : sTo s L = min (sFrom s L + 64) L := rfl
  have hc := crashNot_length F (ftOf ls k) left
  rw [hL] at hc
  obtain ⟨B, hB⟩ : ∃ B, (yOf ls k s).bytes.data.toList = B := ⟨_, rfl⟩
  rw [hB]
  have htl : ((crashNot F (ftOf ls k) left).take (sFrom s L)).length = sFrom s L := by rw [List.length_take]; omega
  have e1 : l1.take (sFrom s L) = (crashNot F (ftOf ls k) left).take (sFrom s L) := by
    rw [hl1, List.append_assoc, List.take_left' htl]
  obtain ⟨q, hq⟩ : ∃ q, (B.take (sTo s L - sFrom s L)).length = q := ⟨_, rfl⟩
  have hql : q ≤ sTo s L - sFrom s L := by rw [← hq, List.length_take]; omega
  have e2 : l1.drop (sFrom s L + q) = List.replicate (sTo s L - sFrom s L - q) 0 ++ (crashNot F (ftOf ls k) left).drop (sFrom s L + (sTo s L - sFrom s L)) := by
    rw [hl1, List.append_assoc, ← List.drop_drop, List.drop_left' htl, List.drop_append_of_le_length (by rw [List.length_replicate]; exact hql), List.drop_replicate]
  rw [hq, e1, e2, ← List.append_assoc, List.append_assoc ((crashNot F (ftOf ls k) left).take (sFrom s L))]
  have hlen : (B.take (sTo s L - sFrom s L) ++ List.replicate (sTo s L - sFrom s L - q) 0).length = sTo s L - sFrom s L := by rw [List.length_append, hq, List.length_replicate]; omega
  have := seg_step (F := F) (ft := ftOf ls k) (left := left) (s := s) hd (B.take (sTo s L - sFrom s L) ++ List.replicate (sTo s L - sFrom s L - q) 0) (by rw [hL]; exact hlen) (fun i i1 i2 => ?_)
  · rw [hL, hlen] at this; exact this
  · rw [hL] at i1 i2 ⊢
    rw [after_repl hd (by omega) hk, hB]
    have e3 : i % 64 = i - sFrom s L := by omega
    rw [e3]
    by_cases hx : i - sFrom s L < q
    · rw [List.getElem?_append_left (by omega), List.getElem?_take_of_lt (by omega), getD_at (by rw [List.length_take] at hq; omega)]
    · rw [List.getElem?_append_right (by omega), List.getElem?_replicate, if_pos (by omega), List.getD_eq_getElem?_getD, List.getElem?_eq_none (by rw [List.length_take] at hq; omega)]; rfl
/-- The file's struct is laid anew. -/
theorem crash_file {w w6 : World} {c : FC} {F : AF} {lv v2 : Value} {L : List UInt8} (h : FileAt w6 c F) (hb : Below w.heap.size w w6) (hcw : ∀ b, c.has b → b < w.heap.size) (h1 : Bytes w6 0 lv L) (o1 : ∀ b, lv.ownBlock = some b → w.heap.size ≤ b) (h2 : Bytes w6 0 v2 L) (o2 : ∀ b, v2.ownBlock = some b → w.heap.size ≤ b) (hne : ∀ b, lv.ownBlock = some b → v2.ownBlock ≠ some b) (hok : AF.Ok ⟨L, L, fun _ => false⟩) :
    ∃ c', c'.g = c.g ∧ FileAt ((((w6.alloc (.map #[] 0)).setCell ⟨c.g, 0, none⟩ lv).setCell ⟨c.g, 1, none⟩ v2).setCell ⟨c.g, 2, none⟩ (.map (some w6.heap.size))) c' ⟨L, L, fun _ => false⟩ ∧ FStep c c' w ((((w6.alloc (.map #[] 0)).setCell ⟨c.g, 0, none⟩ lv).setCell ⟨c.g, 1, none⟩ v2).setCell ⟨c.g, 2, none⟩ (.map (some w6.heap.size))) := by
  have hg := lt_of_some h.cells
  have hgw := hcw c.g (.inl rfl)
  have ec : (w6.alloc (.map #[] 0)).heap[c.g]? = some (.cells #[c.sv, c.fv, .map (some c.dm)] 99 (0, 0)) := by rw [Below.heap_alloc w6 _ c.g hg]; exact h.cells
  have e0 : ((w6.alloc (.map #[] 0)).setCell ⟨c.g, 0, none⟩ lv).heap[c.g]? = some (.cells #[lv, c.fv, .map (some c.dm)] 99 (0, 0)) := by rw [heap_setCell_same _ c.g 0 _ _ _ ec]; rfl
  have e1 : (((w6.alloc (.map #[] 0)).setCell ⟨c.g, 0, none⟩ lv).setCell ⟨c.g, 1, none⟩ v2).heap[c.g]? = some (.cells #[lv, v2, .map (some c.dm)] 99 (0, 0)) := by rw [heap_setCell_same _ c.g 1 _ _ _ e0]; rfl
  have e2 : ((((w6.alloc (.map #[] 0)).setCell ⟨c.g, 0, none⟩ lv).setCell ⟨c.g, 1, none⟩ v2).setCell ⟨c.g, 2, none⟩ (.map (some w6.heap.size))).heap[c.g]? = some (.cells #[lv, v2, .map (some w6.heap.size)] 99 (0, 0)) := by rw [heap_setCell_same _ c.g 2 _ _ _ e1]; rfl
  have ne : ∀ b, b ≠ c.g → ((((w6.alloc (.map #[] 0)).setCell ⟨c.g, 0, none⟩ lv).setCell ⟨c.g, 1, none⟩ v2).setCell ⟨c.g, 2, none⟩ (.map (some w6.heap.size))).heap[b]? = (w6.alloc (.map #[] 0)).heap[b]? := fun b hb => by
    rw [Below.heap_setCell _ ⟨c.g, 2, none⟩ _ b hb, Below.heap_setCell _ ⟨c.g, 1, none⟩ _ b hb, Below.heap_setCell _ ⟨c.g, 0, none⟩ _ b hb]
  have al : ∀ b, b < w6.heap.size → (w6.alloc (.map #[] 0)).heap[b]? = w6.heap[b]? := fun b hb => Below.heap_alloc w6 _ b hb
  have g1 : lv.ownBlock ≠ some c.g := fun e => by have := o1 _ e; omega
  have g2 : v2.ownBlock ≠ some c.g := fun e => by have := o2 _ e; omega
  refine ⟨⟨c.g, w6.heap.size, lv, v2⟩, rfl, ⟨hok, e2, h1.same (fun k hk => ?_), h2.same (fun k hk => ?_), ?_, g1, g2, hne⟩, rfl, ⟨hb.os, hb.tape, hb.output, by have := hb.size; simp [World.setCell]; omega, fun b hb' hn => ?_⟩, fun b hb' => ?_⟩
  · rw [ne k (fun e => g1 (e ▸ hk)), al k (h1.lt k hk)]
  · rw [ne k (fun e => g2 (e ▸ hk)), al k (h2.lt k hk)]
  · have ed : dirtyD ⟨L, L, fun _ => false⟩ = .map [] := by unfold dirtyD AF.dirtyL; simp
    rw [ed]
    exact ownsMap_same ((World.ownsMap_made w6 Tryz.prog 3 (unitElem (H := Unit))).mono (by omega)) (ne _ (by show w6.heap.size ≠ c.g; omega))
  · rw [ne b (fun e => hn (.inl e)), al b (Nat.lt_of_lt_of_le hb' hb.size), hb.block b hb']
  · rcases hb' with rfl | rfl | hb' | hb'
    · exact .inl (.inl rfl)
    · exact .inr hb.size
    · exact .inr (o1 b hb')
    · exact .inr (o2 b hb')
end Go.Proofs.YtlkimfmilccanaaGreat
