/-
  file.sync.
-/
import Derived.Test.YtlkimfmilccanaaGreatWrite
import Derived.Test.YtlkimfmilccanaaGreatLast
import Derived.Test.YtlkimfmilccanaaGreatLast
namespace Go.Proofs.YtlkimfmilccanaaGreat
open Go.RowKit Go.Maps Go.WideMaps
theorem src_piece {w : World} {v u : Value} {l : List UInt8} {o n : Nat} (hB : Bytes w 0 v l) (hp : Piece u v.ownBlock o n) (h : o + n ≤ l.length) : Src Tryz.prog 1 42 u ((l.drop o).take n).length (((l.drop o).take n).map byteV) w := by
  obtain ⟨ad, cp, rfl, _, hpos⟩ := hp
  have hl : ((l.drop o).take n).length = n := by rw [List.length_take, List.length_drop]; omega
  rw [hl]
  have one : ∀ x ∈ ((l.drop o).take n).map byteV, x.oneCell' = true := fun x hx => by
    obtain ⟨i, _, rfl⟩ := List.mem_map.1 hx
    rfl
  rcases Nat.eq_zero_or_pos n with e | e
  · subst e
    have e2 : ((l.drop o).take 0).map byteV = [] := by simp
    rw [e2]
    cases ad with
    | none => exact Src.ofNil w Tryz.underlying42 cp
    | some a => exact Src.ofSlice w Tryz.underlying42 a 0 cp [] rfl (fun j u hu => by simp at hu) (fun u hu => by cases hu)
  · obtain ⟨g, hg, rfl⟩ := hpos e
    exact Src.ofSlice w Tryz.underlying42 ⟨g, o, none⟩ n cp _ (by rw [List.length_map, hl, Nat.mul_one]) (piece_cells hB hg h) one
/-- Behind an append to the safe row and the store of the field. -/
theorem mid_safe {w w2 : World} {c : FC} {F : AF} {v2 : Value} {M : List UInt8} (h : FileAt w c F) (hM2 : Mv w.drew c.fv w2 v2) (hB2 : Bytes w2 0 v2 M) :
    Mid w c ⟨c.g, c.dm, c.sv, v2⟩ F F.seen M (w2.setCell ⟨c.g, 1, none⟩ v2) := by
  have hs2 := hM2.gr.size
  have own : ∀ b, v2.ownBlock = some b → c.fv.ownBlock = some b ∨ w.heap.size ≤ b := fun b hb => hM2.own b hb
  have k2 : ∀ b, b < w.heap.size → c.fv.ownBlock ≠ some b → w2.heap[b]? = w.heap[b]? := fun b hb hn => hM2.gr.block b hb (fun e => hn e.symm)
  have hg := lt_of_some h.cells
  have hdm := h.dirty.lt
  have hv2g : v2.ownBlock ≠ some c.g := fun e => by
    rcases own _ e with x | x
    · exact h.fg x
    · omega
  have ec : w2.heap[c.g]? = some (.cells #[c.sv, c.fv, .map (some c.dm)] 99 (0, 0)) := by rw [k2 c.g hg h.fg]; exact h.cells
  have ne : ∀ b, b ≠ c.g → (w2.setCell ⟨c.g, 1, none⟩ v2).heap[b]? = w2.heap[b]? := fun b hb => Below.heap_setCell w2 ⟨c.g, 1, none⟩ v2 b hb
  refine ⟨?_, h.seen.same (fun k hk => ?_), hB2.same (fun k hk => ne k (fun e => hv2g (e ▸ hk))), ownsMap_same h.dirty ?_, h.sg, hv2g, fun b hb hb' => ?_, rfl, ?_, fun b hb => ?_⟩
  · rw [heap_setCell_same w2 c.g 1 _ _ _ ec]; rfl
  · rw [ne k (fun e => h.sg (e ▸ hk)), k2 k (h.seen.lt k hk) (fun x => h.sf k hk x)]
  · rw [ne c.dm (fun e => h.gd e.symm), k2 c.dm hdm h.fd]
  · rcases own b hb' with x | x
    · exact h.sf b hb x
    · have := h.seen.lt b hb; omega
  · refine ⟨hM2.gr.os, hM2.gr.tape, hM2.gr.output, by simpa [World.setCell] using hs2, fun b hb hn => ?_⟩
    rw [ne b (fun e => hn (.inl e)), k2 b hb (fun x => hn (.inr (.inr (.inr x))))]
  · rcases hb with rfl | rfl | hb | hb
    · exact .inl (.inl rfl)
    · exact .inl (.inr (.inl rfl))
    · exact .inl (.inr (.inr (.inl hb)))
    · rcases own b hb with x | x
      · exact .inl (.inr (.inr (.inr x)))
      · exact .inr x
section
variable {w0 w w' : World} {c c' : FC} {F : AF} {L M M' : List UInt8}
theorem Mid.c0 (h : Mid w0 c c' F L M w) : w.cell? ⟨c'.g, 0, none⟩ = some c'.sv := by rw [cell_of_row w c'.g 0 _ _ (0, 0) h.cells]; rfl
theorem Mid.c1 (h : Mid w0 c c' F L M w) : w.cell? ⟨c'.g, 1, none⟩ = some c'.fv := by rw [cell_of_row w c'.g 1 _ _ (0, 0) h.cells]; rfl
theorem Mid.fz (h : Mid w0 c c' F L M w) (i : Nat) : w.frozen? ⟨c'.g, i, none⟩ = false := frozen_of_row w c'.g i _ _ h.cells
theorem Mid.lt (h : Mid w0 c c' F L M w) : ∀ b, c'.has b → b < w.heap.size := by
  rintro b (rfl | rfl | hb | hb)
  · exact lt_of_some h.cells
  · exact h.dirty.lt
  · exact h.seen.lt b hb
  · exact h.safe.lt b hb
theorem Mid.below (h : Mid w0 c c' F L M w) (t : Below w.heap.size w w') : Mid w0 c c' F L M w' := by
  have e : ∀ b, c'.has b → w'.heap[b]? = w.heap[b]? := fun b hb => t.block b (h.lt b hb)
  exact ⟨by rw [e _ (.inl rfl)]; exact h.cells, h.seen.same (fun k hk => e k (.inr (.inr (.inl hk)))), h.safe.same (fun k hk => e k (.inr (.inr (.inr hk)))), ownsMap_same h.dirty (e _ (.inr (.inl rfl))), h.sg, h.fg, h.sf, h.step.trans (FStep.of_turn (Turn.of_below t _))⟩
/-- Only a block that is not the file's has turned. -/
theorem Mid.other {r : Nat} (h : Mid w0 c c' F L M w) (t : w.grownBy w' (some r)) (hr : ¬ c'.has r) (hr0 : w0.heap.size ≤ r) : Mid w0 c c' F L M w' := by
  have e : ∀ b, c'.has b → w'.heap[b]? = w.heap[b]? := fun b hb => t.block b (h.lt b hb) (fun x => hr (by cases x; exact hb))
  refine ⟨by rw [e _ (.inl rfl)]; exact h.cells, h.seen.same (fun k hk => e k (.inr (.inr (.inl hk)))), h.safe.same (fun k hk => e k (.inr (.inr (.inr hk)))), ownsMap_same h.dirty (e _ (.inr (.inl rfl))), h.sg, h.fg, h.sf, h.step.g, h.step.turn.trans (Turn.of_grown t) (fun b hb => ?_), h.step.own⟩
  have : r = b := by simpa using hb
  exact .inr (this ▸ hr0)
/-- The safe row has turned. -/
theorem Mid.copied (h : Mid w0 c c' F L M w) (hB : Bytes w' 0 c'.fv M') (t : w.grownBy w' c'.fv.ownBlock) : Mid w0 c c' F L M' w' := by
  have e : ∀ b, b < w.heap.size → c'.fv.ownBlock ≠ some b → w'.heap[b]? = w.heap[b]? := fun b hb hn => t.block b hb (fun x => hn x.symm)
  obtain ⟨es, ck, hb, _⟩ := h.dirty
  exact ⟨by rw [e _ (lt_of_some h.cells) h.fg]; exact h.cells, h.seen.same (fun k hk => e k (h.seen.lt k hk) (h.sf k hk)), hB, ownsMap_same h.dirty (e _ h.dirty.lt (h.safe.notMap hb)), h.sg, h.fg, h.sf, h.step.trans (FStep.of_turn ((Turn.of_grown t).mono (fun b hb => .inr (.inr (.inr hb)))))⟩
/-- A new set of dirty sectors: none. -/
theorem Mid.fresh (h : Mid w0 c c' F L M w) (hok : AF.Ok ⟨L, M, fun _ => false⟩) : ∃ c'', c''.g = c'.g ∧ FileAt ((w.alloc (.map #[] 0)).setCell ⟨c'.g, 2, none⟩ (.map (some w.heap.size))) c'' ⟨L, M, fun _ => false⟩ ∧ FStep c c'' w0 ((w.alloc (.map #[] 0)).setCell ⟨c'.g, 2, none⟩ (.map (some w.heap.size))) := by
  have hg := lt_of_some h.cells
  have e1 : ∀ b, b < w.heap.size → (w.alloc (.map #[] 0)).heap[b]? = w.heap[b]? := fun b hb => Below.heap_alloc w _ b hb
  have ec : (w.alloc (.map #[] 0)).heap[c'.g]? = some (.cells #[c'.sv, c'.fv, .map (some c'.dm)] 99 (0, 0)) := by rw [e1 _ hg]; exact h.cells
  have ne : ∀ b, b ≠ c'.g → ((w.alloc (.map #[] 0)).setCell ⟨c'.g, 2, none⟩ (.map (some w.heap.size))).heap[b]? = (w.alloc (.map #[] 0)).heap[b]? := fun b hb => Below.heap_setCell _ ⟨c'.g, 2, none⟩ _ b hb
  have hsz := h.step.turn.size
  refine ⟨⟨c'.g, w.heap.size, c'.sv, c'.fv⟩, rfl, ⟨hok, ?_, h.seen.same (fun k hk => ?_), h.safe.same (fun k hk => ?_), ?_, h.sg, h.fg, h.sf⟩, h.step.g, ?_, fun b hb => ?_⟩
  · rw [heap_setCell_same _ c'.g 2 _ _ _ ec]; rfl
  · rw [ne k (fun e => h.sg (e ▸ hk)), e1 k (h.seen.lt k hk)]
  · rw [ne k (fun e => h.fg (e ▸ hk)), e1 k (h.safe.lt k hk)]
  · have e0 : dirtyD ⟨L, M, fun _ => false⟩ = .map [] := by unfold dirtyD AF.dirtyL; simp
    rw [e0]
    exact ownsMap_same ((World.ownsMap_made w Tryz.prog 3 (unitElem (H := Unit))).mono (by omega)) (ne _ (by show w.heap.size ≠ c'.g; omega))
  · have tt : Turn c'.has w ((w.alloc (.map #[] 0)).setCell ⟨c'.g, 2, none⟩ (.map (some w.heap.size))) := ⟨rfl, rfl, rfl, by simp [World.setCell], fun b hb hn => by rw [ne b (fun e => hn (.inl e)), e1 b hb]⟩
    exact h.step.turn.trans tt h.step.own
  · rcases hb with rfl | rfl | hb | hb
    · exact h.step.own _ (.inl rfl)
    · exact .inr hsz
    · exact h.step.own b (.inr (.inr (.inl hb)))
    · exact h.step.own b (.inr (.inr (.inr hb)))
end
/-! ### what the safe row holds on the way -/
def safe1 (F : AF) : List UInt8 := F.safe ++ F.seen.drop F.safe.length
theorem safe1_length {F : AF} (h : F.Ok) : (safe1 F).length = F.seen.length := by
  have := h.le
  simp [safe1]; omega
def mixL (F : AF) (left : Lit → Bool) : List UInt8 := (List.range F.seen.length).map (fun i => if (F.dirty (i / 64) && !left (.int .i64 ((i / 64 : Nat) : Int))) = true then F.seen.getD i 0 else (safe1 F).getD i 0)
theorem mixL_length (F : AF) (left : Lit → Bool) : (mixL F left).length = F.seen.length := by simp [mixL]
theorem getD_at {l : List UInt8} {i : Nat} (h : i < l.length) : l[i]? = some (l.getD i 0) := by
  rw [List.getD_eq_getElem?_getD, List.getElem?_eq_getElem h]; rfl
theorem mixL_at (F : AF) (left : Lit → Bool) (i : Nat) (h : i < F.seen.length) : (mixL F left)[i]? = some (if (F.dirty (i / 64) && !left (.int .i64 ((i / 64 : Nat) : Int))) = true then F.seen.getD i 0 else (safe1 F).getD i 0) := by
  unfold mixL
  rw [List.getElem?_map, List.getElem?_range h]; rfl
theorem mixL_start {F : AF} (h : F.Ok) : mixL F (Maps.has (dirtyD F)) = safe1 F := by
  apply List.ext_getElem?
  intro i
  by_cases hi : i < F.seen.length
  · rw [mixL_at _ _ i hi, getD_at (by rw [safe1_length h]; exact hi)]
    have : (F.dirty (i / 64) && !Maps.has (dirtyD F) (.int .i64 ((i / 64 : Nat) : Int))) = false := by
      rw [dirty_has h, decide_eq_true (by omega), Int.toNat_natCast]
      cases F.dirty (i / 64) <;> rfl
    rw [this]; rfl
  · rw [List.getElem?_eq_none (by rw [mixL_length]; omega), List.getElem?_eq_none (by rw [safe1_length h]; omega)]
theorem mixL_end {F : AF} (h : F.Ok) {left : Lit → Bool} (hl : ∀ kl, left kl = false) : mixL F left = F.seen := by
  apply List.ext_getElem?
  intro i
  by_cases hi : i < F.seen.length
  · rw [mixL_at _ _ i hi, hl, getD_at hi]
    cases hd : F.dirty (i / 64) with
    | true => rfl
    | false =>
      obtain ⟨h1, h2⟩ := h.clean i hi hd
      have e : (safe1 F).getD i 0 = F.seen.getD i 0 := by
        unfold safe1
        rw [List.getD_eq_getElem?_getD, List.getD_eq_getElem?_getD, List.getElem?_append_left h1, h2]
      simp only [Bool.false_and, Bool.false_eq_true, if_false, e]
  · rw [List.getElem?_eq_none (by rw [mixL_length]; omega), List.getElem?_eq_none (by omega)]
theorem mixL_step {F : AF} {left : Lit → Bool} {s : Nat} (hd : F.dirty s = true) :
    (mixL F left).take (sFrom s F.seen.length) ++ (F.seen.drop (sFrom s F.seen.length)).take (sTo s F.seen.length - sFrom s F.seen.length) ++ (mixL F left).drop (sFrom s F.seen.length + (sTo s F.seen.length - sFrom s F.seen.length)) = mixL F (fun z => left z && !z.sameKey (.int .i64 (s : Int))) := by
  have h1 := sFromTo s F.seen.length
  have h2 := sTo_le s F.seen.length
  have h3 : sFrom s F.seen.length = min (64 * s) F.seen.length := rfl
  have h4 : sTo s F.seen.length = min (sFrom s F.seen.length + 64) F.seen.length := rfl
  have hl := mixL_length F left
  rw [Nat.add_sub_cancel' h1]
  apply List.ext_getElem?
  intro i
  by_cases hi : i < F.seen.length
  · rw [mixL_at F _ i hi]
    by_cases ha : i < sFrom s F.seen.length
    · rw [List.append_assoc, List.getElem?_append_left (by rw [List.length_take]; omega), List.getElem?_take_of_lt ha, mixL_at F _ i hi]
      have hne : ((i / 64 : Nat) : Int) ≠ (s : Int) := by omega
      simp only [Lit.sameKey, hne, and_false, decide_false, Bool.not_false, Bool.and_true]
    · by_cases hb : i < sTo s F.seen.length
      · rw [List.getElem?_append_left (by simp; omega), List.getElem?_append_right (by rw [List.length_take]; omega), List.getElem?_take_of_lt (by rw [List.length_take]; omega), List.getElem?_drop]
        have e1 : sFrom s F.seen.length + (i - ((mixL F left).take (sFrom s F.seen.length)).length) = i := by rw [List.length_take]; omega
        have e2 : i / 64 = s := by omega
        rw [e1, e2, getD_at hi, hd]
        simp [Lit.sameKey]
      · rw [List.getElem?_append_right (by simp; omega), List.getElem?_drop]
        have e1 : sTo s F.seen.length + (i - ((mixL F left).take (sFrom s F.seen.length) ++ (F.seen.drop (sFrom s F.seen.length)).take (sTo s F.seen.length - sFrom s F.seen.length)).length) = i := by simp; omega
        rw [e1, mixL_at F _ i hi]
        have hne : ((i / 64 : Nat) : Int) ≠ (s : Int) := by omega
        simp only [Lit.sameKey, hne, and_false, decide_false, Bool.not_false, Bool.and_true]
  · rw [List.getElem?_eq_none (by simp; omega), List.getElem?_eq_none (by rw [mixL_length]; omega)]
end Go.Proofs.YtlkimfmilccanaaGreat
