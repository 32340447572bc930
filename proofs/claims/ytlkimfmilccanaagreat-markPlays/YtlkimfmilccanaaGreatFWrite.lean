import Derived.Test.YtlkimfmilccanaaGreatCopy
import Derived.Deep.RegionLaw
/-
  sector, clear, file.write.
-/
namespace Go.Proofs.YtlkimfmilccanaaGreat
open Go.RowKit Go.Maps Go.WideMaps
def sFrom (s len : Nat) : Nat := min (64 * s) len
def sTo (s len : Nat) : Nat := min (sFrom s len + 64) len
theorem sFrom_le (s len : Nat) : sFrom s len ≤ len := Nat.min_le_right _ _
theorem sTo_le (s len : Nat) : sTo s len ≤ len := Nat.min_le_right _ _
theorem sFromTo (s len : Nat) : sFrom s len ≤ sTo s len := by unfold sTo sFrom; omega
set_option maxRecDepth 5000 in
set_option maxHeartbeats 400000 in
theorem sector_any (w : World) (v : Value) (l : List UInt8) (hB : Bytes w 0 v l) (s : Nat) (hs : s < 16384) (hl : l.length ≤ 140737488355328) :
    ∃ u, Piece u v.ownBlock (sFrom s l.length) (sTo s l.length - sFrom s l.length) ∧ ∀ W : World, Calls Tryz.prog 83 #[v, .int .i64 (s : Int)] W fun e w' => e = .returned u ∧ w' = W := by
  obtain ⟨ad, cp, hv⟩ := hB.shape
  obtain ⟨u, hr, hp⟩ := run_slice_piece w hB (sFrom s l.length) (sTo s l.length) (sFromTo _ _) (sTo_le _ _)
  obtain ⟨n, hn⟩ : ∃ n, l.length = n := ⟨_, rfl⟩
  rw [hn] at hr hp hl hv
  subst hv
  rw [hn]
  refine ⟨u, hp, fun W => ?_⟩
  have hf : (if (n : Int) < (s : Int) * 64 then (n : Int) else (s : Int) * 64) = ((sFrom s n : Nat) : Int) := by unfold sFrom; split <;> omega
  have ht : (if (n : Int) < ((sFrom s n : Nat) : Int) + 64 then (n : Int) else ((sFrom s n : Nat) : Int) + 64) = ((sTo s n : Nat) : Int) := by unfold sTo; split <;> omega
  have h1 : ((sFrom s n : Nat) : Int) ≤ 140737488355328 := by have := sFrom_le s n; omega
  have hs' : (s : Int) < 16384 := by omega
  obtain ⟨f, hff⟩ : ∃ f, sFrom s n = f := ⟨_, rfl⟩
  obtain ⟨t, htt⟩ : ∃ t, sTo s n = t := ⟨_, rfl⟩
  rw [hff] at hf ht hr h1
  rw [htt] at ht hr
  clear hp hff htt hB
  go_enter Tryz.func83, Tryz.ntmps83
  go_wp2
  go_ret
  exact ⟨rfl, rfl⟩
end Go.Proofs.YtlkimfmilccanaaGreat
/-
  file.write.
-/
namespace Go.Proofs.YtlkimfmilccanaaGreat
open Go.RowKit Go.Maps Go.WideMaps
theorem src_text (s : ByteArray) (w : World) : Src Tryz.prog 1 9 (.string s) s.data.toList.length (s.data.toList.map byteV) w := by
  rw [str_len]; exact Src.ofString w Tryz.underlying9 s
theorem wpList_append_src {ops : Array Oper} {rest : List Oper} {o : Oper} {a : Act} {w : World} {Q : Exit → Act → World → Prop} (hgd : o.guard = none) (sl x : Operand) (tx : TypeId)
    (ho : o.op = .call { callee := .builtin .append, args := #[sl, x], argTypes := #[42, tx] }) (B : Nat) (v : Value) (l : List UInt8) (hs : a.eval sl = v) (hown : Bytes w B v l) (X : Value) (news : List UInt8) (hx : a.eval x = X) (hsrc : Src Tryz.prog 1 tx X news.length (news.map byteV) w)
    (hlen : l.length + news.length ≤ 140737488355328) (hB : B ≤ w.heap.size)
    (h : ∀ ad n c w', Bytes w' B (.slice ad n c) (l ++ news) → Mv w v w' (.slice ad n c) → wpList Tryz.prog ops Q rest (a.put o.dst (.slice ad n c)) w') : wpList Tryz.prog ops Q (o :: rest) a w := by
  obtain ⟨v', w', hr, h1, h2⟩ := run_append_bytes w B o.type tx v l news hown X hsrc hlen hB
  obtain ⟨ad, c, rfl⟩ := h1.shape
  refine wpList_plain hgd fun K hK => ?_
  unfold Oper.wp execOp
  simp only [ho, resolve, invoke, builtin, Sem.run_bind, Sem.run_pure, Result.andThen_ok, List.map_toArray, List.map_cons, List.map_nil, hs, hx, hr]
  exact hK _ _ (h _ _ _ _ h1 h2)
theorem step_append_src {ops : Array Oper} {o : Oper} {a : Act} {w : World} {K : Act → World → Prop} {Q : Exit → Act → World → Prop} {E : Prop} (hgd : o.guard = none) (sl x : Operand) (tx : TypeId)
    (ho : o.op = .call { callee := .builtin .append, args := #[sl, x], argTypes := #[42, tx] }) (v : Value) (l : List UInt8) (hs : a.eval sl = v) (hown : Bytes w 0 v l) (X : Value) (news : List UInt8) (hx : a.eval x = X) (hsrc : Src Tryz.prog 1 tx X news.length (news.map byteV) w)
    (hlen : l.length + news.length ≤ 140737488355328)
    (h : ∀ ad n c w', Bytes w' 0 (.slice ad n c) (l ++ news) → Mv w v w' (.slice ad n c) → K (a.put o.dst (.slice ad n c)) w') : if Region.wanted o (yielded ops a.tmps) = true then Oper.wp Tryz.prog o a w K Q else E := by
  have hw : Region.wanted o (yielded ops a.tmps) = true := by simp [Region.wanted, hgd]
  rw [if_pos hw]
  obtain ⟨v', w', hr, h1, h2⟩ := run_append_bytes w 0 o.type tx v l news hown X hsrc hlen (Nat.zero_le _)
  obtain ⟨ad, c, rfl⟩ := h1.shape
  unfold Oper.wp execOp
  simp only [ho, resolve, invoke, builtin, Sem.run_bind, Sem.run_pure, Result.andThen_ok, List.map_toArray, List.map_cons, List.map_nil, hs, hx, hr]
  exact h _ _ _ _ h1 h2
theorem run_slice_str_from (w : World) (s : ByteArray) (i : Nat) (hi : i ≤ s.size) : (Instr.slice 9 (.string s) (some (.int .i64 (i : Int))) none none).run Tryz.prog w = .ok (.string (s.extract i s.size)) w := by
  simp [Instr.slice, Instr.sliceBounds, Instr.sliceBound, asIntOf, run_underlying Tryz.underlying9, hi]
theorem extract_from (s : ByteArray) (i : Nat) : (s.extract i s.size).data.toList = s.data.toList.drop i := by
  rw [ByteArray.data_extract, Array.toList_extract, List.extract_eq_take_drop, List.take_of_length_le]
  rw [List.length_drop, str_len]
  omega
/-- What the two steps lay together. -/
theorem laid_bytes (l t : List UInt8) (a : Nat) (ha : a ≤ l.length) : (l.take a ++ t.take (l.length - a) ++ l.drop (a + (t.take (l.length - a)).length)) ++ t.drop (Nat.min t.length (l.length - a)) = l.take a ++ t ++ l.drop (a + t.length) := by
  by_cases h : t.length ≤ l.length - a
  · rw [List.take_of_length_le h, show Nat.min t.length (l.length - a) = t.length from Nat.min_eq_left h, List.drop_length, List.append_nil]
  · have e1 : Nat.min t.length (l.length - a) = l.length - a := Nat.min_eq_right (by omega)
    have e2 : (t.take (l.length - a)).length = l.length - a := by rw [List.length_take]; omega
    rw [e1, e2, List.drop_of_length_le (by omega : l.length ≤ a + (l.length - a)), List.append_nil, List.append_assoc, List.take_append_drop, List.drop_of_length_le (by omega : l.length ≤ a + t.length), List.append_nil]
theorem FileAt.drew {w : World} {c : FC} {F : AF} (h : FileAt w c F) : FileAt w.drew c F := h.same (fun _ _ => rfl)
theorem AF.write_ne {F : AF} {a : Nat} {t : List UInt8} (h : t ≠ []) : F.write a t = ⟨F.seen.take a ++ t ++ F.seen.drop (a + t.length), F.safe, fun s => F.dirty s || (decide (a / 64 ≤ s) && decide (s ≤ (a + t.length - 1) / 64))⟩ := by
  unfold AF.write; rw [if_neg h]
/-- The map has the dirty sectors, and those from a on that are marked so far. -/
def Marked (D : DataW Unit) (F : AF) (a k : Nat) : Prop := ∀ s : Int, Maps.has D (.int .i64 s) = (decide (0 ≤ s) && (F.dirty s.toNat || (decide (a ≤ s.toNat) && decide (s.toNat < k))))
theorem Marked.start {F : AF} (h : F.Ok) (a : Nat) : Marked (dirtyD F) F a a := fun s => by
  rw [dirty_has h]
  have : (decide (a ≤ s.toNat) && decide (s.toNat < a)) = false := by
    rw [Bool.and_eq_false_iff, decide_eq_false_iff_not, decide_eq_false_iff_not]; omega
  rw [this, Bool.or_false]
theorem Marked.step {D : DataW Unit} {F : AF} {a k : Nat} (h : Marked D F a k) (hD : IsMap D) (hk : a ≤ k) (d : DataW Unit) : Marked (D.put (.int .i64 (k : Int)) d) F a (k + 1) := fun s => by
  by_cases e : s = (k : Int)
  · subst e
    rw [has_put_same hD (by trivial)]
    have h1 : decide (a ≤ k) = true := decide_eq_true hk
    simp [h1]
  · rw [has_put_other (fun x => e (by cases x; rfl)), h s]
    by_cases h0 : 0 ≤ s
    · have h2 : (decide (s.toNat < k)) = (decide (s.toNat < k + 1)) := by rw [decide_eq_decide]; omega
      rw [h2]
    · rw [decide_eq_false h0]; rfl
/-- Midway: the file's cells, its rows, the old set of sectors. -/
structure Mid (w0 : World) (c c' : FC) (F : AF) (L M : List UInt8) (w : World) : Prop where
  cells : w.heap[c'.g]? = some (.cells #[c'.sv, c'.fv, .map (some c'.dm)] 99 (0, 0))
  seen : Bytes w 0 c'.sv L
  safe : Bytes w 0 c'.fv M
  dirty : w.ownsMap Tryz.prog 3 (unitElem (H := Unit)) c'.dm 16384 (dirtyD F)
  sg : c'.sv.ownBlock ≠ some c'.g
  fg : c'.fv.ownBlock ≠ some c'.g
  sf : ∀ b, c'.sv.ownBlock = some b → c'.fv.ownBlock ≠ some b
  step : FStep c c' w0 w
theorem Mid.c2 {w0 w : World} {c c' : FC} {F : AF} {L M : List UInt8} (h : Mid w0 c c' F L M w) : w.cell? ⟨c'.g, 2, none⟩ = some (.map (some c'.dm)) := by rw [cell_of_row w c'.g 2 _ _ (0, 0) h.cells]; rfl
theorem Mid.gd {w0 w : World} {c c' : FC} {F : AF} {L M : List UInt8} (h : Mid w0 c c' F L M w) : c'.g ≠ c'.dm := fun e => by
  obtain ⟨es, ck, hb, _⟩ := h.dirty
  have := h.cells
  rw [e, hb] at this
  cases this
/-- The sectors are marked: the file is whole again. -/
theorem Mid.done {w0 w w' : World} {c c' : FC} {F : AF} {L M : List UInt8} {d : Nat → Bool} (h : Mid w0 c c' F L M w) (t : Turn (fun b => b = c'.dm) w w') (hok : AF.Ok ⟨L, M, d⟩) {n : Nat} {D : DataW Unit} (hown : w'.ownsMap Tryz.prog 3 (unitElem (H := Unit)) c'.dm n D) (hh : ∀ s : Int, Maps.has D (.int .i64 s) = (decide (0 ≤ s) && d s.toNat)) :
    FileAt w' c' ⟨L, M, d⟩ ∧ FStep c c' w0 w' := by
  obtain ⟨es, ck, hb, _⟩ := h.dirty
  have e : ∀ b, b < w.heap.size → b ≠ c'.dm → w'.heap[b]? = w.heap[b]? := fun b h1 h2 => t.block b h1 h2
  refine ⟨⟨hok, by rw [e _ (lt_of_some h.cells) h.gd]; exact h.cells, h.seen.same (fun k hk => e k (h.seen.lt k hk) (fun x => h.seen.notMap hb (x ▸ hk))), h.safe.same (fun k hk => e k (h.safe.lt k hk) (fun x => h.safe.notMap hb (x ▸ hk))), dirty_of_has hown hok hh, h.sg, h.fg, h.sf⟩, ?_⟩
  exact h.step.trans (FStep.of_turn (t.mono (fun b hb => .inr (.inl hb))))
/-- Behind the copy, the append and the store of the field. -/
theorem mid_seen {w w1 w2 : World} {c : FC} {F : AF} {v2 : Value} {L : List UInt8} (h : FileAt w c F) (hg1 : w.grownBy w1 c.sv.ownBlock) (hM2 : Mv w1.drew c.sv w2 v2) (hB2 : Bytes w2 0 v2 L) :
    Mid w c ⟨c.g, c.dm, v2, c.fv⟩ F L F.safe (w2.setCell ⟨c.g, 0, none⟩ v2) := by
  have hs1 := hg1.size
  have hs2 := hM2.gr.size
  have own : ∀ b, v2.ownBlock = some b → c.sv.ownBlock = some b ∨ w.heap.size ≤ b := fun b hb => by
    rcases hM2.own b hb with x | x
    · exact .inl x
    · exact .inr (Nat.le_trans hs1 x)
  have k2 : ∀ b, b < w.heap.size → c.sv.ownBlock ≠ some b → w2.heap[b]? = w.heap[b]? := fun b hb hn =>
    (hM2.gr.block b (Nat.lt_of_lt_of_le hb hs1) (fun e => hn e.symm)).trans (hg1.block b hb (fun e => hn e.symm))
  have hg := lt_of_some h.cells
  have hdm := h.dirty.lt
  have hv2g : v2.ownBlock ≠ some c.g := fun e => by
    rcases own _ e with x | x
    · exact h.sg x
    · omega
  have ec : w2.heap[c.g]? = some (.cells #[c.sv, c.fv, .map (some c.dm)] 99 (0, 0)) := by rw [k2 c.g hg h.sg]; exact h.cells
  have ne : ∀ b, b ≠ c.g → (w2.setCell ⟨c.g, 0, none⟩ v2).heap[b]? = w2.heap[b]? := fun b hb => Below.heap_setCell w2 ⟨c.g, 0, none⟩ v2 b hb
  refine ⟨?_, hB2.same (fun k hk => ne k (fun e => hv2g (e ▸ hk))), h.safe.same (fun k hk => ?_), ownsMap_same h.dirty ?_, hv2g, h.fg, fun b hb hb' => ?_, rfl, ?_, fun b hb => ?_⟩
  · rw [heap_setCell_same w2 c.g 0 _ _ _ ec]; rfl
  · rw [ne k (fun e => h.fg (e ▸ hk)), k2 k (h.safe.lt k hk) (fun x => h.sf k x hk)]
  · rw [ne c.dm (fun e => h.gd e.symm), k2 c.dm hdm h.sd]
  · rcases own b hb with x | x
    · exact h.sf b x hb'
    · have := h.safe.lt b hb'; omega
  · refine ⟨hM2.gr.os.trans hg1.os, hM2.gr.tape.trans hg1.tape, hM2.gr.output.trans hg1.output, by simpa [World.setCell] using Nat.le_trans hs1 hs2, fun b hb hn => ?_⟩
    rw [ne b (fun e => hn (.inl e)), k2 b hb (fun x => hn (.inr (.inr (.inl x))))]
  · rcases hb with rfl | rfl | hb | hb
    · exact .inl (.inl rfl)
    · exact .inl (.inr (.inl rfl))
    · rcases own b hb with x | x
      · exact .inl (.inr (.inr (.inl x)))
      · exact .inr x
    · exact .inl (.inr (.inr (.inr hb)))
theorem wf_nat (k : Nat) (h : k < 9223372036854775808) : (Lit.int .i64 (k : Int)).wf = true := WalkArith.wf_i64 (by omega)
theorem wpList_mark {ops : Array Oper} {rest : List Oper} {o : Oper} {a : Act} {Q : Exit → Act → World → Prop} (w : World) (hg : o.guard = none) (m x v : Operand) (hop : o.op = Op.mapUpdate 97 m x v) (dm n : Nat) (D : DataW Unit) (hm : a.eval m = .map (some dm)) (hown : w.ownsMap Tryz.prog 3 (unitElem (H := Unit)) dm n D) (hn : n < maxLen) (k : Nat) (hk : k < 9223372036854775808) (hx : a.eval x = .int .i64 (k : Int)) (hv : a.eval v = .agg #[])
    (hK : ∀ w', w'.ownsMap Tryz.prog 3 (unitElem (H := Unit)) dm (n + 1) (D.put (.int .i64 (k : Int)) (.agg [])) → w.grownBy w' (some dm) → wpList Tryz.prog ops Q rest (a.put o.dst undef) w') : wpList Tryz.prog ops Q (o :: rest) a w :=
  wpList_mapUpdate_own w hg m x v 97 hop 3 136 law3 Tryz.underlying97 unitElem dm n D hm hown hn _ _ _ hx hv (keyOf_int_mk Tryz.underlying3 (wf_nat k hk)) (.agg []) [] unitElem_mk hK
set_option maxRecDepth 5000 in
set_option maxHeartbeats 1000000 in
theorem fwrite_any (w : World) (c : FC) (F : AF) (h : FileAt w c F) (a : Nat) (t : ByteArray) (ha : a ≤ F.seen.length) (hm : a + t.size ≤ 1048576) :
    Calls Tryz.prog 47 #[.pointer (some ⟨c.g, 0, none⟩), .int .i64 (a : Int), .string t] w fun e w' => e = .returned (.tuple #[]) ∧ ∃ c', FileAt w' c' (F.write a t.data.toList) ∧ FStep c c' w w' := by
  by_cases h0 : t.size = 0
  · have e := empty_of_size h0
    subst e
    have HH := hide h
    clear h
    have HE : Hid (F.write a (⟨#[]⟩ : ByteArray).data.toList = F) := by show _ = _; unfold AF.write; rw [if_pos rfl]
    go_enter Tryz.func47, Tryz.ntmps47
    go_wp2
    (try simp only [Exit.inBlock, Exit.then])
    refine bodyPost_ret (results_none rfl _ _ _) rfl ?_
    rw [HE.out]
    exact ⟨rfl, c, HH.out, FStep.refl _ _⟩
  · have hne : t.data.toList ≠ [] := fun e => h0 (by rw [← str_len, e]; rfl)
    have HH := hide h
    have HN := hide hne
    have c0 := h.c0
    obtain ⟨u, hsl, hpc⟩ := run_slice_from w h.seen a ha
    obtain ⟨w1, hcp, hB1, hg1⟩ := run_copy_str w h.seen hpc (by omega) t
    obtain ⟨over, hov⟩ : ∃ over, Nat.min t.size (F.seen.length - a) = over := ⟨_, rfl⟩
    rw [hov] at hcp
    have hover : over ≤ t.size := by rw [← hov]; exact Nat.min_le_left _ _
    obtain ⟨ad, cp, hv⟩ := h.seen.shape
    have hts : ∀ w', (Instr.slice 9 (.string t) (some (.int .i64 (over : Int))) none none).run Tryz.prog w' = .ok (.string (t.extract over t.size)) w' := fun w' => run_slice_str_from w' t over hover
    have hln : (F.seen.take a ++ t.data.toList.take (F.seen.length - a) ++ F.seen.drop (a + (t.data.toList.take (F.seen.length - a)).length)).length + (t.extract over t.size).data.toList.length ≤ 140737488355328 := by
      rw [extract_from, List.length_append, List.length_append, List.length_take, List.length_drop, List.length_drop, List.length_take, str_len]; have := h.ok.most; omega
    have k1 : w1.heap[c.g]? = w.heap[c.g]? := hg1.block c.g (lt_of_some h.cells) (fun e => h.sg e.symm)
    have d0 : w1.cell? ⟨c.g, 0, none⟩ = some c.sv := by rw [World.cell?_of_block k1]; exact h.c0
    rw [hv] at c0 hsl d0
    have HV := hide hv
    have HB1 := hide hB1
    have HG1 := hide hg1
    have HOV := hide hov
    have HLN := hide hln
    have K1 := hide k1
    have ha64 : (a : Int) ≤ 1048576 := by omega
    have hs64 : (t.size : Int) ≤ 1048576 := by omega
    have hs1 : (1 : Int) ≤ (t.size : Int) := by omega
    have hgs := lt_of_some h.cells
    have hgs1 := hg1.size
    clear hne hov hv hg1 hB1 k1 hpc h hln
    have hne2 : t.toList.isEmpty = false := by rw [ByteArray.toList_eq]; cases hl : t.data.toList with | nil => exact absurd hl HN.out | cons _ _ => rfl
    go_enter Tryz.func47, Tryz.ntmps47
    go_wp2
    go_region_law (refine step_append_src rfl _ _ 9 (by rfl) c.sv _ (by rw [HV.out]; rfl) (HB1.out.same (fun _ _ => rfl)) (.string (t.extract over t.size)) _ (by rfl) (src_text _ _) HLN.out ?_; intro ad2 N cp2 w2 hB2 hM2; have k2 : w2.heap[c.g]? = w.heap[c.g]? := (hM2.gr.block c.g (Nat.lt_of_lt_of_le hgs hgs1) (fun e => HH.out.sg e.symm)).trans K1.out; have e0 : w2.cell? ⟨c.g, 0, none⟩ = some c.sv := (by rw [World.cell?_of_block k2]; exact HH.out.c0); have ez : w2.frozen? ⟨c.g, 0, none⟩ = false := (by rw [World.frozen?_of_block k2]; exact HH.out.fz 0); rw [HV.out] at e0; have HB2 := hide hB2; have HM2 := hide hM2; have K2 := hide k2; clear hB2 hM2 k2)
    rw [extract_from, ← HOV.out, ← str_len t, laid_bytes _ _ _ ha] at HB2
    have hmid := mid_seen HH.out HG1.out HM2.out HB2.out
    clear d0 c0 hsl hcp hts
    go_wp2
    generalize hW : w2.setCell ⟨c.g, 0, none⟩ (.slice ad2 N cp2) = w3 at hmid ⊢
    clear hW
    obtain ⟨lo, hlo⟩ : ∃ lo, a / 64 = lo := ⟨_, rfl⟩
    obtain ⟨hi, hhi⟩ : ∃ hi, (a + t.size - 1) / 64 = hi := ⟨_, rfl⟩
    have e1 : ((a : Int) / 64) = (lo : Int) := by omega
    have e2 : (((a : Int) + (t.size : Int) - 1) / 64) = (hi : Int) := by omega
    have hlh : lo ≤ hi := by omega
    have hhm : hi < 16384 := by omega
    go_loopw [8] (fun i wr => ∃ (k : Nat) (D : DataW Unit), lo ≤ k ∧ k ≤ hi + 1 ∧ i = .int .i64 (k : Int) ∧ wr.ownsMap Tryz.prog 3 (unitElem (H := Unit)) c.dm (16384 + (k - lo)) D ∧ Marked D F lo k ∧ Turn (fun b => b = c.dm) w3 wr) (fun i _ => hi + 1 - (intOf i).toNat)
    case atStart => exact ⟨lo, dirtyD F, Nat.le_refl _, by omega, by rw [e1], by rw [Nat.sub_self]; exact hmid.dirty, Marked.start HH.out.ok lo, Turn.refl _ _⟩
    case round =>
      obtain ⟨k, D, hk1, hk2, rfl, hown, hmk, ht⟩ := hrel
      have HO := hide hown
      have HMK := hide hmk
      have HT := hide ht
      have HMD := hide hmid
      have g1 : wr.heap[c.g]? = w3.heap[c.g]? := ht.block c.g (lt_of_some hmid.cells) hmid.gd
      have c2 : wr.cell? ⟨c.g, 2, none⟩ = some (.map (some c.dm)) := by rw [World.cell?_of_block g1]; exact hmid.c2
      clear hown hmk ht hmid g1 e0 ez
      by_cases hle : k ≤ hi
      · have dk : decide ((k : Int) ≤ (hi : Int)) = true := decide_eq_true (by omega)
        have hk64 : (k : Int) ≤ 16384 := by omega
        go_wp2_with (first | (at_mapUpdate; refine wpList_mark _ rfl _ _ _ rfl c.dm _ _ (by rfl) HO.out (by unfold maxLen; omega) k (by omega) (by rfl) (by rfl) ?_; intro w4 hown4 hgr4; go_frame) | go_in)
        go_roundw
        case rel => exact ⟨k + 1, _, by omega, by omega, by go_num, hown4.mono (by omega), HMK.out.step HO.out.isMap hk1 _, HT.out.trans (Turn.of_grown hgr4) (fun b hb => .inl (by simpa using hb.symm))⟩
        case measure => simp [intOf]; omega
      · have hkk : k = hi + 1 := by omega
        have dk : decide ((k : Int) ≤ (hi : Int)) = false := decide_eq_false (by omega)
        go_wp2
        go_end0
        rw [AF.write_ne HN.out]
        have hok := HH.out.ok.write (t := t.data.toList) ha (by rw [str_len]; exact hm)
        rw [AF.write_ne HN.out] at hok
        refine ⟨rfl, _, HMD.out.done HT.out hok HO.out (fun s => ?_)⟩
        rw [HMK.out s, str_len, hlo, hhi]
        have : decide (s.toNat < k) = decide (s.toNat ≤ hi) := by rw [decide_eq_decide]; omega
        rw [this]
end Go.Proofs.YtlkimfmilccanaaGreat
