import Derived.Test.YtjfbdnogkbhciaaGreatDoorWrite
import Derived.Test.YtjfbdnogkbhciaaGreatDoorLast
/-
  file.sync.
-/
namespace Go.Proofs.YtjfbdnogkbhciaaGreatDoor
open Go.RowKit Go.Maps Go.WideMaps
theorem src_piece {w : World} {v u : Value} {l : List UInt8} {o n : Nat} (hB : Bytes w 0 v l) (hp : Piece u v.ownBlock o n) (h : o + n ≤ l.length) : Src Tryz.prog 1 114 u ((l.drop o).take n).length (((l.drop o).take n).map byteV) w := by
  obtain ⟨ad, cp, rfl, _, hpos⟩ := hp
  have hl : ((l.drop o).take n).length = n := by rw [List.length_take, List.length_drop]; omega
  rw [hl]
  have one : ∀ x ∈ ((l.drop o).take n).map byteV, x.oneCell' = true := fun x hx => by
    obtain ⟨i, _, rfl⟩ := List.mem_map.1 hx
    rfl
  rcases Nat.eq_zero_or_pos n with e | e
  · subst e
    have e2 : ((l.drop o).take 0).map byteV = [] := by simp
    rw [e2]
    cases ad with
    | none => exact Src.ofNil w Tryz.underlying114 cp
    | some a => exact Src.ofSlice w Tryz.underlying114 a 0 cp [] rfl (fun j u hu => by simp at hu) (fun u hu => by cases hu)
  · obtain ⟨g, hg, rfl⟩ := hpos e
    exact Src.ofSlice w Tryz.underlying114 ⟨g, o, none⟩ n cp _ (by rw [List.length_map, hl, Nat.mul_one]) (piece_cells hB hg h) one
/-- Behind an append to the safe row and the store of the field. -/
theorem mid_safe {w w2 : World} {c : FC} {F : AF} {v2 : Value} {M : List UInt8} (h : FileAt w c F) (hM2 : Mv w.drew c.fv w2 v2) (hB2 : Bytes w2 0 v2 M) :
    Mid w c ⟨c.g, c.dm, c.sv, v2⟩ F F.seen M (w2.setCell ⟨c.g, 1, none⟩ v2) := by
  have hs2 := hM2.gr.size
  have own : ∀ b, v2.ownBlock = some b → c.fv.ownBlock = some b ∨ w.heap.size ≤ b := fun b hb => hM2.own b hb
  have k2 : ∀ b, b < w.heap.size → c.fv.ownBlock ≠ some b → w2.heap[b]? = w.heap[b]? := fun b hb hn => hM2.gr.block b hb (fun e => hn e.symm)
  have hg := lt_of_some h.cells
  have hdm := h.dirty.lt
  have hv2g : v2.ownBlock ≠ some c.g := fun e => by
    rcases own _ e with x | x
    · exact h.fg x
    · omega
  have ec : w2.heap[c.g]? = some (.cells #[c.sv, c.fv, .map (some c.dm)] 117 (0, 0)) := by rw [k2 c.g hg h.fg]; exact h.cells
  have ne : ∀ b, b ≠ c.g → (w2.setCell ⟨c.g, 1, none⟩ v2).heap[b]? = w2.heap[b]? := fun b hb => Below.heap_setCell w2 ⟨c.g, 1, none⟩ v2 b hb
  refine ⟨?_, h.seen.same (fun k hk => ?_), hB2.same (fun k hk => ne k (fun e => hv2g (e ▸ hk))), ownsMap_same h.dirty ?_, h.sg, hv2g, fun b hb hb' => ?_, rfl, ?_, fun b hb => ?_⟩
  · rw [heap_setCell_same w2 c.g 1 _ _ _ ec]; rfl
  · rw [ne k (fun e => h.sg (e ▸ hk)), k2 k (h.seen.lt k hk) (fun x => h.sf k hk x)]
  · rw [ne c.dm (fun e => h.gd e.symm), k2 c.dm hdm h.fd]
  · rcases own b hb' with x | x
    · exact h.sf b hb x
    · have := h.seen.lt b hb; omega
  · refine ⟨hM2.gr.os, hM2.gr.tape, hM2.gr.output, by simpa [World.setCell] using hs2, fun b hb hn => ?_⟩
    rw [ne b (fun e => hn (.inl e)), k2 b hb (fun x => hn (.inr (.inr (.inr x))))]
  · rcases hb with rfl | rfl | hb | hb
    · exact .inl (.inl rfl)
    · exact .inl (.inr (.inl rfl))
    · exact .inl (.inr (.inr (.inl hb)))
    · rcases own b hb with x | x
      · exact .inl (.inr (.inr (.inr x)))
      · exact .inr x
section
variable {w0 w w' : World} {c c' : FC} {F : AF} {L M M' : List UInt8}
theorem Mid.c0 (h : Mid w0 c c' F L M w) : w.cell? ⟨c'.g, 0, none⟩ = some c'.sv := by rw [cell_of_row w c'.g 0 _ _ (0, 0) h.cells]; rfl
theorem Mid.c1 (h : Mid w0 c c' F L M w) : w.cell? ⟨c'.g, 1, none⟩ = some c'.fv := by rw [cell_of_row w c'.g 1 _ _ (0, 0) h.cells]; rfl
theorem Mid.fz (h : Mid w0 c c' F L M w) (i : Nat) : w.frozen? ⟨c'.g, i, none⟩ = false := frozen_of_row w c'.g i _ _ h.cells
theorem Mid.lt (h : Mid w0 c c' F L M w) : ∀ b, c'.has b → b < w.heap.size := by
  rintro b (rfl | rfl | hb | hb)
  · exact lt_of_some h.cells
  · exact h.dirty.lt
  · exact h.seen.lt b hb
  · exact h.safe.lt b hb
theorem Mid.below (h : Mid w0 c c' F L M w) (t : Below w.heap.size w w') : Mid w0 c c' F L M w' := by
  have e : ∀ b, c'.has b → w'.heap[b]? = w.heap[b]? := fun b hb => t.block b (h.lt b hb)
  exact ⟨by rw [e _ (.inl rfl)]; exact h.cells, h.seen.same (fun k hk => e k (.inr (.inr (.inl hk)))), h.safe.same (fun k hk => e k (.inr (.inr (.inr hk)))), ownsMap_same h.dirty (e _ (.inr (.inl rfl))), h.sg, h.fg, h.sf, h.step.trans (FStep.of_turn (Turn.of_below t _))⟩
/-- Only a block that is not the file's has turned. -/
theorem Mid.other {r : Nat} (h : Mid w0 c c' F L M w) (t : w.grownBy w' (some r)) (hr : ¬ c'.has r) (hr0 : w0.heap.size ≤ r) : Mid w0 c c' F L M w' := by
  have e : ∀ b, c'.has b → w'.heap[b]? = w.heap[b]? := fun b hb => t.block b (h.lt b hb) (fun x => hr (by cases x; exact hb))
  refine ⟨by rw [e _ (.inl rfl)]; exact h.cells, h.seen.same (fun k hk => e k (.inr (.inr (.inl hk)))), h.safe.same (fun k hk => e k (.inr (.inr (.inr hk)))), ownsMap_same h.dirty (e _ (.inr (.inl rfl))), h.sg, h.fg, h.sf, h.step.g, h.step.turn.trans (Turn.of_grown t) (fun b hb => ?_), h.step.own⟩
  have : r = b := by simpa using hb
  exact .inr (this ▸ hr0)
/-- The safe row has turned. -/
theorem Mid.copied (h : Mid w0 c c' F L M w) (hB : Bytes w' 0 c'.fv M') (t : w.grownBy w' c'.fv.ownBlock) : Mid w0 c c' F L M' w' := by
  have e : ∀ b, b < w.heap.size → c'.fv.ownBlock ≠ some b → w'.heap[b]? = w.heap[b]? := fun b hb hn => t.block b hb (fun x => hn x.symm)
  obtain ⟨es, ck, hb, _⟩ := h.dirty
  exact ⟨by rw [e _ (lt_of_some h.cells) h.fg]; exact h.cells, h.seen.same (fun k hk => e k (h.seen.lt k hk) (h.sf k hk)), hB, ownsMap_same h.dirty (e _ h.dirty.lt (h.safe.notMap hb)), h.sg, h.fg, h.sf, h.step.trans (FStep.of_turn ((Turn.of_grown t).mono (fun b hb => .inr (.inr (.inr hb)))))⟩
/-- A new set of dirty sectors: none. -/
theorem Mid.fresh (h : Mid w0 c c' F L M w) (hok : AF.Ok ⟨L, M, fun _ => false⟩) : ∃ c'', c''.g = c'.g ∧ FileAt ((w.alloc (.map #[] 0)).setCell ⟨c'.g, 2, none⟩ (.map (some w.heap.size))) c'' ⟨L, M, fun _ => false⟩ ∧ FStep c c'' w0 ((w.alloc (.map #[] 0)).setCell ⟨c'.g, 2, none⟩ (.map (some w.heap.size))) := by
  have hg := lt_of_some h.cells
  have e1 : ∀ b, b < w.heap.size → (w.alloc (.map #[] 0)).heap[b]? = w.heap[b]? := fun b hb => Below.heap_alloc w _ b hb
  have ec : (w.alloc (.map #[] 0)).heap[c'.g]? = some (.cells #[c'.sv, c'.fv, .map (some c'.dm)] 117 (0, 0)) := by rw [e1 _ hg]; exact h.cells
  have ne : ∀ b, b ≠ c'.g → ((w.alloc (.map #[] 0)).setCell ⟨c'.g, 2, none⟩ (.map (some w.heap.size))).heap[b]? = (w.alloc (.map #[] 0)).heap[b]? := fun b hb => Below.heap_setCell _ ⟨c'.g, 2, none⟩ _ b hb
  have hsz := h.step.turn.size
  refine ⟨⟨c'.g, w.heap.size, c'.sv, c'.fv⟩, rfl, ⟨hok, ?_, h.seen.same (fun k hk => ?_), h.safe.same (fun k hk => ?_), ?_, h.sg, h.fg, h.sf⟩, h.step.g, ?_, fun b hb => ?_⟩
  · rw [heap_setCell_same _ c'.g 2 _ _ _ ec]; rfl
  · rw [ne k (fun e => h.sg (e ▸ hk)), e1 k (h.seen.lt k hk)]
  · rw [ne k (fun e => h.fg (e ▸ hk)), e1 k (h.safe.lt k hk)]
  · have e0 : dirtyD ⟨L, M, fun _ => false⟩ = .map [] := by unfold dirtyD AF.dirtyL; simp
    rw [e0]
    exact ownsMap_same ((World.ownsMap_made w Tryz.prog 3 (unitElem (H := Unit))).mono (by omega)) (ne _ (by show w.heap.size ≠ c'.g; omega))
  · have tt : Turn c'.has w ((w.alloc (.map #[] 0)).setCell ⟨c'.g, 2, none⟩ (.map (some w.heap.size))) := ⟨rfl, rfl, rfl, by simp [World.setCell], fun b hb hn => by rw [ne b (fun e => hn (.inl e)), e1 b hb]⟩
    exact h.step.turn.trans tt h.step.own
  · rcases hb with rfl | rfl | hb | hb
    · exact h.step.own _ (.inl rfl)
    · exact .inr hsz
    · exact h.step.own b (.inr (.inr (.inl hb)))
    · exact h.step.own b (.inr (.inr (.inr hb)))
end
/-! ### what the safe row holds on the way -/
def safe1 (F : AF) : List UInt8 := F.safe ++ F.seen.drop F.safe.length
theorem safe1_length {F : AF} (h : F.Ok) : (safe1 F).length = F.seen.length := by
  have := h.le
  simp [safe1]; omega
def mixL (F : AF) (left : Lit → Bool) : List UInt8 := (List.range F.seen.length).map (fun i => if (F.dirty (i / 64) && !left (.int .i64 ((i / 64 : Nat) : Int))) = true then F.seen.getD i 0 else (safe1 F).getD i 0)
theorem mixL_length (F : AF) (left : Lit → Bool) : (mixL F left).length = F.seen.length := by simp [mixL]
theorem getD_at {l : List UInt8} {i : Nat} (h : i < l.length) : l[i]? = some (l.getD i 0) := by
  rw [List.getD_eq_getElem?_getD, List.getElem?_eq_getElem h]; rfl
theorem mixL_at (F : AF) (left : Lit → Bool) (i : Nat) (h : i < F.seen.length) : (mixL F left)[i]? = some (if (F.dirty (i / 64) && !left (.int .i64 ((i / 64 : Nat) : Int))) = true then F.seen.getD i 0 else (safe1 F).getD i 0) := by
  unfold mixL
  rw [List.getElem?_map, List.getElem?_range h]; rfl
theorem mixL_start {F : AF} (h : F.Ok) : mixL F (Maps.has (dirtyD F)) = safe1 F := by
  apply List.ext_getElem?
  intro i
  by_cases hi : i < F.seen.length
  · rw [mixL_at _ _ i hi, getD_at (by rw [safe1_length h]; exact hi)]
    have : (F.dirty (i / 64) && !Maps.has (dirtyD F) (.int .i64 ((i / 64 : Nat) : Int))) = false := by
      rw [dirty_has h, decide_eq_true (by omega), Int.toNat_natCast]
      cases F.dirty (i / 64) <;> rfl
    rw [this]; rfl
  · rw [List.getElem?_eq_none (by rw [mixL_length]; omega), List.getElem?_eq_none (by rw [safe1_length h]; omega)]
theorem mixL_end {F : AF} (h : F.Ok) {left : Lit → Bool} (hl : ∀ kl, left kl = false) : mixL F left = F.seen := by
  apply List.ext_getElem?
  intro i
  by_cases hi : i < F.seen.length
  · rw [mixL_at _ _ i hi, hl, getD_at hi]
    cases hd : F.dirty (i / 64) with
    | true => rfl
    | false =>
      obtain ⟨h1, h2⟩ := h.clean i hi hd
      have e : (safe1 F).getD i 0 = F.seen.getD i 0 := by
        unfold safe1
        rw [List.getD_eq_getElem?_getD, List.getD_eq_getElem?_getD, List.getElem?_append_left h1, h2]
      simp only [Bool.false_and, Bool.false_eq_true, if_false, e]
  · rw [List.getElem?_eq_none (by rw [mixL_length]; omega), List.getElem?_eq_none (by omega)]
theorem mixL_step {F : AF} {left : Lit → Bool} {s : Nat} (hd : F.dirty s = true) :
    (mixL F left).take (sFrom s F.seen.length) ++ (F.seen.drop (sFrom s F.seen.length)).take (sTo s F.seen.length - sFrom s F.seen.length) ++ (mixL F left).drop (sFrom s F.seen.length + (sTo s F.seen.length - sFrom s F.seen.length)) = mixL F (fun z => left z && !z.sameKey (.int .i64 (s : Int))) := by
  have h1 := sFromTo s F.seen.length
  have h2 := sTo_le s F.seen.length
  have h3 : sFrom s F.seen.length = min (64 * s) F.seen.length := rfl
  have h4 : sTo s F.seen.length = min (sFrom s F.seen.length + 64) F.seen.length := rfl
  have hl := mixL_length F left
  rw [Nat.add_sub_cancel' h1]
  apply List.ext_getElem?
  intro i
  by_cases hi : i < F.seen.length
  · rw [mixL_at F _ i hi]
    by_cases ha : i < sFrom s F.seen.length
    · rw [List.append_assoc, List.getElem?_append_left (by rw [List.length_take]; omega), List.getElem?_take_of_lt ha, mixL_at F _ i hi]
      have hne : ((i / 64 : Nat) : Int) ≠ (s : Int) := by omega
      simp only [Lit.sameKey, hne, and_false, decide_false, Bool.not_false, Bool.and_true]
    · by_cases hb : i < sTo s F.seen.length
      · rw [List.getElem?_append_left (by simp; omega), List.getElem?_append_right (by rw [List.length_take]; omega), List.getElem?_take_of_lt (by rw [List.length_take]; omega), List.getElem?_drop]
        have e1 : sFrom s F.seen.length + (i - ((mixL F left).take (sFrom s F.seen.length)).length) = i := by rw [List.length_take]; omega
        have e2 : i / 64 = s := by omega
        rw [e1, e2, getD_at hi, hd]
        simp [Lit.sameKey]
      · rw [List.getElem?_append_right (by simp; omega), List.getElem?_drop]
        have e1 : sTo s F.seen.length + (i - ((mixL F left).take (sFrom s F.seen.length) ++ (F.seen.drop (sFrom s F.seen.length)).take (sTo s F.seen.length - sFrom s F.seen.length)).length) = i := by simp; omega
        rw [e1, mixL_at F _ i hi]
        have hne : ((i / 64 : Nat) : Int) ≠ (s : Int) := by omega
        simp only [Lit.sameKey, hne, and_false, decide_false, Bool.not_false, Bool.and_true]
  · rw [List.getElem?_eq_none (by simp; omega), List.getElem?_eq_none (by rw [mixL_length]; omega)]
end Go.Proofs.YtjfbdnogkbhciaaGreatDoor
/-
  file.sync: the walk.
-/
namespace Go.Proofs.YtjfbdnogkbhciaaGreatDoor
open Go.RowKit Go.Maps Go.WideMaps
set_option linter.unusedSimpArgs false
theorem wpList_run_copy {P : Program} {ops : Array Oper} {rest : List Oper} {o : Oper} {a : Act} {w : World} {Q : Exit → Act → World → Prop} (hgd : o.guard = none) (d x : Operand) (tys : Array TypeId) (ho : o.op = .call { callee := .builtin .copy, args := #[d, x], argTypes := tys }) (v : Value) (w' : World)
    (h : (Builtin.copy_ tys o.type #[a.eval d, a.eval x]).run P w = .ok v w') (hk : wpList P ops Q rest (a.put o.dst v) w') : wpList P ops Q (o :: rest) a w :=
  wpList_plain hgd fun K hK => by
    unfold Oper.wp
    rw [run_copy_op d x tys ho h]
    exact hK _ _ hk
theorem Mid.drewN {w0 w : World} {c c' : FC} {F : AF} {L M : List UInt8} (h : Mid w0 c c' F L M w) (n : Nat) : Mid w0 c c' F L M (w.drewN n) := h.below ⟨rfl, rfl, rfl, Nat.le_refl _, fun _ _ => rfl⟩
set_option maxRecDepth 5000 in
set_option maxHeartbeats 1000000 in
theorem fsync_any (w : World) (c : FC) (F : AF) (h : FileAt w c F) :
    Calls Tryz.prog 35 #[.pointer (some ⟨c.g, 0, none⟩)] w fun e w' => e = .returned (.tuple #[]) ∧ ∃ c', FileAt w' c' F.sync ∧ FStep c c' w w' := by
  have HH := hide h
  have hmm := @run_makeMap Tryz.prog
  have c0 := h.c0
  have c1 := h.c1
  have hok := h.ok
  have hle := hok.le
  have hmo := hok.most
  obtain ⟨u, hsl, hpc⟩ := run_slice_from w h.seen F.safe.length hle
  obtain ⟨ad, cp, hv⟩ := h.seen.shape
  obtain ⟨ad1, cp1, hv1⟩ := h.safe.shape
  have hsrc := src_piece (h.drew).seen hpc (by omega)
  have e9 : (F.seen.drop F.safe.length).take (F.seen.length - F.safe.length) = F.seen.drop F.safe.length := List.take_of_length_le (by rw [List.length_drop]; omega)
  rw [e9] at hsrc
  obtain ⟨v2, w2, hap, hB2, hM2⟩ := run_append_bytes w.drew 0 114 114 c.fv F.safe _ (h.drew).safe u hsrc (by rw [List.length_drop]; omega) (Nat.zero_le _)
  have hmid := mid_safe h hM2 hB2
  have k2 : w2.heap[c.g]? = w.heap[c.g]? := hM2.gr.block c.g (lt_of_some h.cells) (fun e => h.fg e.symm)
  have e0 : w2.cell? ⟨c.g, 0, none⟩ = some c.sv := by rw [World.cell?_of_block k2]; exact h.c0
  have e1 : w2.cell? ⟨c.g, 1, none⟩ = some c.fv := by rw [World.cell?_of_block k2]; exact h.c1
  have ez : w2.frozen? ⟨c.g, 1, none⟩ = false := by rw [World.frozen?_of_block k2]; exact h.fz 1
  obtain ⟨ad2, cp2, hv2⟩ := hB2.shape
  obtain ⟨N, hN⟩ : ∃ N, (F.safe ++ F.seen.drop F.safe.length).length = N := ⟨_, rfl⟩
  rw [hN] at hv2
  subst hv2
  have HV := hide hv
  have HV1 := hide hv1
  have hgs := lt_of_some h.cells
  rw [hv] at c0 hsl e0
  rw [hv1] at c1 hap e1
  have HAP := hide hap
  have HSL := hide hsl
  have HMD := hide hmid
  have HS2 : Hid (w2.cell? ⟨c.g, 0, none⟩ = some (.slice ad F.seen.length cp) ∧ w2.cell? ⟨c.g, 1, none⟩ = some (.slice ad1 F.safe.length cp1)) := ⟨e0, e1⟩
  have HS1 : Hid (w.cell? ⟨c.g, 0, none⟩ = some (.slice ad F.seen.length cp) ∧ w.cell? ⟨c.g, 1, none⟩ = some (.slice ad1 F.safe.length cp1)) := ⟨c0, c1⟩
  clear hpc h hv hv1 e9 hsrc hM2 hB2 k2 hap hsl hmid hN c0 c1 e0
  go_enter Tryz.func35, Tryz.ntmps35
  go_wp2
  refine wp_region_noPanic ?_
  refine wp_region_T (S := fun wx => wx.cell? ⟨c.g, 0, none⟩ = some (.slice ad F.seen.length cp) ∧ wx.cell? ⟨c.g, 1, none⟩ = some (.slice ad1 F.safe.length cp1)) 18 (by kernel_rfl) HS1.out (fun hHeld => ?_)
  refine takeT 0 (some 3) (.pointer (some ⟨c.g, 0, none⟩)) rfl rfl (by kernel_rfl) (by kernel_rfl) (by kernel_rfl) (by kernel_rfl) (by decide) (fun _ _ _ h => h) (by rfl) (fun w hw => by first | rfl | (go_simp; done) | (go_simp; rfl)) hHeld ?_
  simp only [Act.put, List.setIfInBounds_toArray, List.set_cons_zero, List.set_cons_succ]
  refine takeT 1 (some 4) (.pointer (some ⟨c.g, 0, none⟩)) rfl rfl (by kernel_rfl) (by kernel_rfl) (by kernel_rfl) (by kernel_rfl) (by decide) (fun _ _ _ h => h) (by rfl) (fun w hw => by first | rfl | (go_simp; done) | (go_simp; rfl)) hHeld ?_
  simp only [Act.put, List.setIfInBounds_toArray, List.set_cons_zero, List.set_cons_succ]
  refine takeT 2 (some 5) (.pointer (some ⟨c.g, 0, none⟩)) rfl rfl (by kernel_rfl) (by kernel_rfl) (by kernel_rfl) (by kernel_rfl) (by decide) (fun _ _ _ h => h) (by rfl) (fun w hw => by first | rfl | (go_simp; done) | (go_simp; rfl)) hHeld ?_
  simp only [Act.put, List.setIfInBounds_toArray, List.set_cons_zero, List.set_cons_succ]
  refine takeT 3 (some 6) (.pointer (some ⟨c.g, 1, none⟩)) rfl rfl (by kernel_rfl) (by kernel_rfl) (by kernel_rfl) (by kernel_rfl) (by decide) (fun _ _ _ h => h) (by rfl) (fun w hw => by first | rfl | (go_simp; done) | (go_simp; rfl)) hHeld ?_
  simp only [Act.put, List.setIfInBounds_toArray, List.set_cons_zero, List.set_cons_succ]
  refine takeT 4 (some 7) (.slice ad1 F.safe.length cp1) rfl rfl (by kernel_rfl) (by kernel_rfl) (by kernel_rfl) (by kernel_rfl) (by decide) (fun _ _ _ h => h) (by rfl) (fun w hw => by have hw' := hw.2; first | (go_simp; done) | (go_simp; rfl)) hHeld ?_
  simp only [Act.put, List.setIfInBounds_toArray, List.set_cons_zero, List.set_cons_succ]
  refine takeT 5 (some 8) (.pointer (some ⟨c.g, 0, none⟩)) rfl rfl (by kernel_rfl) (by kernel_rfl) (by kernel_rfl) (by kernel_rfl) (by decide) (fun _ _ _ h => h) (by rfl) (fun w hw => by first | rfl | (go_simp; done) | (go_simp; rfl)) hHeld ?_
  simp only [Act.put, List.setIfInBounds_toArray, List.set_cons_zero, List.set_cons_succ]
  refine takeT 6 (some 9) (.pointer (some ⟨c.g, 0, none⟩)) rfl rfl (by kernel_rfl) (by kernel_rfl) (by kernel_rfl) (by kernel_rfl) (by decide) (fun _ _ _ h => h) (by rfl) (fun w hw => by first | rfl | (go_simp; done) | (go_simp; rfl)) hHeld ?_
  simp only [Act.put, List.setIfInBounds_toArray, List.set_cons_zero, List.set_cons_succ]
  refine takeT 7 (some 10) (.pointer (some ⟨c.g, 0, none⟩)) rfl rfl (by kernel_rfl) (by kernel_rfl) (by kernel_rfl) (by kernel_rfl) (by decide) (fun _ _ _ h => h) (by rfl) (fun w hw => by first | rfl | (go_simp; done) | (go_simp; rfl)) hHeld ?_
  simp only [Act.put, List.setIfInBounds_toArray, List.set_cons_zero, List.set_cons_succ]
  refine takeT 8 (some 11) (.slice ad F.seen.length cp) rfl rfl (by kernel_rfl) (by kernel_rfl) (by kernel_rfl) (by kernel_rfl) (by decide) (fun _ _ _ h => h) (by rfl) (fun w hw => by have hw' := hw.1; first | (go_simp; done) | (go_simp; rfl)) hHeld ?_
  simp only [Act.put, List.setIfInBounds_toArray, List.set_cons_zero, List.set_cons_succ]
  refine takeT 9 (some 12) (.pointer (some ⟨c.g, 0, none⟩)) rfl rfl (by kernel_rfl) (by kernel_rfl) (by kernel_rfl) (by kernel_rfl) (by decide) (fun _ _ _ h => h) (by rfl) (fun w hw => by first | rfl | (go_simp; done) | (go_simp; rfl)) hHeld ?_
  simp only [Act.put, List.setIfInBounds_toArray, List.set_cons_zero, List.set_cons_succ]
  refine takeT 10 (some 13) (.pointer (some ⟨c.g, 0, none⟩)) rfl rfl (by kernel_rfl) (by kernel_rfl) (by kernel_rfl) (by kernel_rfl) (by decide) (fun _ _ _ h => h) (by rfl) (fun w hw => by first | rfl | (go_simp; done) | (go_simp; rfl)) hHeld ?_
  simp only [Act.put, List.setIfInBounds_toArray, List.set_cons_zero, List.set_cons_succ]
  refine takeT 11 (some 14) (.pointer (some ⟨c.g, 1, none⟩)) rfl rfl (by kernel_rfl) (by kernel_rfl) (by kernel_rfl) (by kernel_rfl) (by decide) (fun _ _ _ h => h) (by rfl) (fun w hw => by first | rfl | (go_simp; done) | (go_simp; rfl)) hHeld ?_
  simp only [Act.put, List.setIfInBounds_toArray, List.set_cons_zero, List.set_cons_succ]
  refine takeT 12 (some 15) (.slice ad1 F.safe.length cp1) rfl rfl (by kernel_rfl) (by kernel_rfl) (by kernel_rfl) (by kernel_rfl) (by decide) (fun _ _ _ h => h) (by rfl) (fun w hw => by have hw' := hw.2; first | (go_simp; done) | (go_simp; rfl)) hHeld ?_
  simp only [Act.put, List.setIfInBounds_toArray, List.set_cons_zero, List.set_cons_succ]
  refine takeT 13 (some 16) (.int .i64 (F.safe.length : Int)) rfl rfl (by kernel_rfl) (by kernel_rfl) (by kernel_rfl) (by kernel_rfl) (by decide) (fun _ _ _ h => h) (by rfl) (fun w hw => by first | rfl | (go_simp; done) | (go_simp; rfl)) hHeld ?_
  simp only [Act.put, List.setIfInBounds_toArray, List.set_cons_zero, List.set_cons_succ]
  refine takeT 14 (some 17) u rfl rfl (by kernel_rfl) (by kernel_rfl) (by kernel_rfl) (by kernel_rfl) (by decide) (fun _ _ _ h => h) (by rfl) (fun w hw => by have hq := HSL.out w; first | (go_simp; done) | (go_simp; rfl)) hHeld ?_
  simp only [Act.put, List.setIfInBounds_toArray, List.set_cons_zero, List.set_cons_succ]
  refine readyT 15 (by kernel_rfl) rfl (by rfl) (fun K hK => ?_)
  refine wpRun (run_append_op _ _ _ rfl HAP.out) ?_
  simp only [Act.put, List.setIfInBounds_toArray, List.set_cons_zero, List.set_cons_succ]
  refine hK.out _ _ (fun _ => HS2.out) (fun hH => ?_)
  have hHeld := hH (by decide)
  clear hK K hH
  refine readyT 16 (by kernel_rfl) rfl (by rfl) (fun K hK => ?_)
  go_simp
  refine hK.out _ _ (fun _ => hHeld) (fun hH => ?_)
  clear hHeld
  have hHeld := hH (by decide)
  clear hK K hH
  refine readyT 17 (by kernel_rfl) rfl (by rfl) (fun K hK => ?_)
  go_simp
  refine hK.out _ _ (fun _ => hHeld) (fun hH => ?_)
  clear hHeld
  have hHeld := hH (by decide)
  clear hK K hH
  refine readyT 18 (by kernel_rfl) rfl (by rfl) (fun K hK => ?_)
  go_simp
  refine hK.out _ _ (fun x => absurd rfl x) (fun _ => ?_)
  clear hK K hHeld
  refine ⟨by kernel_rfl, ?_⟩
  refine NoPanic.normal ?_
  generalize hW : w2.setCell ⟨c.g, 1, none⟩ (.slice ad2 N cp2) = w3 at HMD ⊢
  have d2 := HMD.out.c2
  clear hW e1 ez
  go_wp2_with (first | (at_range; refine wpList_range_dirty _ rfl _ rfl F c.dm (by rfl) HMD.out.dirty ?_; intro w4 hrg4 hb4 hlt4) | go_in)
  try go_frame

  clear d2
  obtain ⟨r, hr⟩ : ∃ r, w3.heap.size = r := ⟨_, rfl⟩
  rw [hr] at hrg4 hb4 hlt4 ⊢
  have hr0 : w.heap.size ≤ r := by rw [← hr]; exact HMD.out.step.turn.size
  have hrn : ∀ b, (FC.mk c.g c.dm c.sv (.slice ad2 N cp2)).has b → b < r := fun b hb => by rw [← hr]; exact HMD.out.lt b hb
  have hm4 := HMD.out.below (by rw [hr]; exact hb4)
  clear hr
  go_loopw [2] (fun _ wr => ∃ left cnt, wr.ranges Tryz.prog 3 (unitElem (H := Unit)) c.dm r 16384 (dirtyD F) left cnt ∧ Mid w c ⟨c.g, c.dm, c.sv, .slice ad2 N cp2⟩ F F.seen (mixL F left) wr) (fun _ wr => wr.rangeLeft c.dm r)
  case atStart => exact ⟨_, _, hrg4, by rw [mixL_start hok]; exact hm4⟩
  case round =>
    clear hrg4 hm4 hb4 hlt4
    obtain ⟨left, cnt, hrg, hmid⟩ := hrel
    have HR := hide hrg
    have HM := hide hmid
    clear hrg hmid
    go_wp2_with (first | (at_next; refine wpList_next_dirty _ rfl _ rfl F hok c.dm r 16384 left cnt (by rfl) HR.out ?_ ?_) | go_in)
    · intro hl0
      have hm6 := HM.out
      rw [mixL_end hok hl0] at hm6
      obtain ⟨c6, hg6, hf6, hs6⟩ := hm6.fresh hok.sync
      have x2 := hm6.c2
      have xz := hm6.fz 2
      have ea : (wr.alloc (.map #[] 0)).heap[c.g]? = wr.heap[c.g]? := Below.heap_alloc wr _ c.g (lt_of_some hm6.cells)
      have y2 : (wr.alloc (.map #[] 0)).cell? ⟨c.g, 2, none⟩ = some (.map (some c.dm)) := by rw [World.cell?_of_block ea]; exact x2
      have yz : (wr.alloc (.map #[] 0)).frozen? ⟨c.g, 2, none⟩ = false := by rw [World.frozen?_of_block ea]; exact xz
      have HF6 := hide hf6
      have HS6 := hide hs6
      clear hm6 hf6 hs6 ea x2 xz
      go_wp2
      go_end0
      exact ⟨rfl, c6, HF6.out, HS6.out⟩
    · intro s w5 cnt5 hd hs hlk hrg5 hlt5 hg5 hen
      have hm5 := HM.out.other hg5 (fun x => by have := hrn r x; omega) hr0
      obtain ⟨u1, hp1, hc1⟩ := sector_any w5 _ _ hm5.safe s hs (by rw [mixL_length]; omega)
      obtain ⟨u2, hp2, hc2⟩ := sector_any w5 _ _ hm5.seen s hs (by omega)
      rw [mixL_length] at hp1
      have x0 := hm5.c0
      have x1 := hm5.c1
      have HP1 := hide hp1
      have HP2 := hide hp2
      have HC1 := hide hc1
      have HC2 := hide hc2
      rw [HV.out] at HC2 x0
      have HRG5 := hide hrg5
      have HM5 := hide hm5
      have HL5 := hide hlt5
      clear hp1 hp2 hc1 hc2 hrg5 hm5 hlt5 hg5
      go_wp2
      refine wp_region_drew_tail 12 (by kernel_rfl) (by kernel_rfl) ?_
      simp only [List.take_succ_cons, List.take_zero, List.drop_succ_cons, List.drop_zero]
      iterate 5 (go_big_quiet_step (fail))
      go_big_quiet_step ((go_at_call 66; exact Calls.quiet_of_same (HC1.out _)))
      iterate 5 (go_big_quiet_step (fail))
      go_big_quiet_step ((go_at_call 66; exact Calls.quiet_of_same (HC2.out _)))
      refine wpQuiet_nil ?_
      intro _ hw'
      obtain ⟨nq, rfl⟩ := hw'
      have hmN := HM5.out.drewN nq
      obtain ⟨w6, hcp6, hB6, hg6⟩ := run_copy_bytes (w5.drewN nq) hmN.safe HP1.out (by rw [mixL_length]; have := sFromTo s F.seen.length; have := sTo_le s F.seen.length; omega) hmN.seen HP2.out (by have := sFromTo s F.seen.length; have := sTo_le s F.seen.length; omega)
      rw [show Nat.min (sTo s F.seen.length - sFrom s F.seen.length) (sTo s F.seen.length - sFrom s F.seen.length) = sTo s F.seen.length - sFrom s F.seen.length from Nat.min_self _, mixL_step hd] at hB6
      have hm6 := hmN.copied hB6 hg6
      have hrg6 : w6.ranges Tryz.prog 3 (unitElem (H := Unit)) c.dm r 16384 (dirtyD F) (fun z => left z && !z.sameKey (.int .i64 (s : Int))) cnt5 := by
        obtain ⟨es, ck, hb, _⟩ := hmN.dirty
        refine ranges_same HRG5.out (hg6.block c.dm hmN.dirty.lt (fun e => hmN.safe.notMap hb e.symm)) (hg6.block r HRG5.out.lt (fun e => ?_))
        have := hrn r (.inr (.inr (.inr e.symm)))
        omega
      have H6 := hide hrg6
      have M6 := hide hm6
      clear hrg6 hm6 hB6 hg6 hmN x0 x1 hen
      refine wpList_run_copy rfl _ _ _ rfl _ w6 (hcp6 _) ?_
      clear hcp6
      go_wp2
      try go_frame
      go_roundw
      case rel => exact ⟨_, cnt5, H6.out, M6.out⟩
      case measure => rw [H6.out.left_eq, HR.out.left_eq]; exact HL5.out
end Go.Proofs.YtjfbdnogkbhciaaGreatDoor
