import Derived.Test.YtlkimfmilccanaaGreatLenB
/-
  What a crash leaves: the row on its way; clear, make.
-/
namespace Go.Proofs.YtlkimfmilccanaaGreat
open Go.RowKit Go.Maps Go.WideMaps
set_option linter.unusedVariables false
theorem wpList_make_zero {ops : Array Oper} {rest : List Oper} {o : Oper} {a : Act} {w : World} {Q : Exit → Act → World → Prop} (hgd : o.guard = none) (l c : Operand) (ho : o.op = .makeSlice 42 l c) (n : Nat) (hl : a.eval l = .int .i64 (n : Int)) (hc : a.eval c = .int .i64 (n : Int)) (hn : n ≤ 281474976710656)
    (h : ∀ w1, Bytes w1 0 (.slice (some ⟨w.heap.size, 0, none⟩) n n) (List.replicate n 0) → Below w.heap.size w w1 → wpList Tryz.prog ops Q rest (a.put o.dst (.slice (some ⟨w.heap.size, 0, none⟩) n n)) w1) : wpList Tryz.prog ops Q (o :: rest) a w := by
  have hr := run_make_row' (P := Tryz.prog) 42 5 (.int .u8 0) 1 Tryz.underlying42 info5 rfl .i64 .i64 n (by omega) (by omega) w
  refine wpList_plain hgd fun K hK => ?_
  unfold Oper.wp execOp
  simp only [ho, hl, hc, hr, Sem.run_bind, Sem.run_pure, Result.andThen_ok]
  refine hK _ _ (h _ ?_ ((Below.refl _ _).alloc (Nat.le_refl _) _))
  refine ⟨by simp, .inr ⟨w.heap.size, n, _, by rw [List.length_replicate], Nat.zero_le _, heap_alloc_new w _, by rw [List.length_replicate]; exact Nat.le_refl _, by unfold maxLen; omega, by simp [madeCells], ?_⟩⟩
  rw [List.length_replicate, Nat.mul_one]
  have hm : (madeCells #[.int .u8 0] n).toList = (List.replicate n (0 : UInt8)).map byteV := by
    apply List.ext_getElem?
    intro i
    unfold madeCells
    rw [Array.toList_map, List.getElem?_map, Array.toList_range, List.getElem?_map, List.getElem?_replicate]
    by_cases hi : i < n
    · rw [List.getElem?_range hi, if_pos hi]
      have e : i % (#[Value.int .u8 0] : Array Value).size = 0 := Nat.mod_one i
      simp only [Option.map_some, e]
      rfl
    · rw [List.getElem?_eq_none (by simp; omega), if_neg hi]; rfl
  rw [hm, List.take_of_length_le (by simp)]
theorem zero_cells (n : Nat) : (Builtin.zeroCells (Value.int .u8 0).cells n).toList = (List.replicate n (0 : UInt8)).map byteV := by
  apply List.ext_getElem?
  intro i
  rw [List.getElem?_map, List.getElem?_replicate]
  unfold Builtin.zeroCells
  rw [Array.toList_map, List.getElem?_map, Array.toList_range]
  show Option.map _ (List.range (n * 1))[i]? = _
  rw [Nat.mul_one]
  by_cases h : i < n
  · rw [List.getElem?_range h, if_pos h]
    simp only [Option.map_some]
    congr 1
    have : i % (Value.int .u8 0).cells.size = 0 := Nat.mod_one i
    rw [this]
    rfl
  · rw [List.getElem?_eq_none (by simp; omega), if_neg h]; rfl
theorem zeroU8 (w : World) : (zeroValue 5).run Tryz.prog w = .ok (.int .u8 0) w := by kernel_rfl
theorem run_clear_piece (w : World) {v d : Value} {l : List UInt8} (hB : Bytes w 0 v l) {o n : Nat} (hd : Piece d v.ownBlock o n) (hfit : o + n ≤ l.length) :
    ∃ w', (∀ ty, (Builtin.clear_ #[42] ty #[d]).run Tryz.prog w = .ok (.tuple #[]) w') ∧ Bytes w' 0 v (l.take o ++ List.replicate n 0 ++ l.drop (o + n)) ∧ w.grownBy w' v.ownBlock := by
  obtain ⟨ad, cp, rfl, _, hpos⟩ := hd
  rcases Nat.eq_zero_or_pos n with e | e
  · subst e
    refine ⟨w, fun ty => ?_, by simpa using hB, ⟨rfl, rfl, rfl, Nat.le_refl _, fun _ _ _ => rfl⟩⟩
    cases ad <;> simp [Builtin.clear_, run_underlying Tryz.underlying42]
  · obtain ⟨g, hg, rfl⟩ := hpos e
    rcases hB.2 with ⟨rfl, _⟩ | ⟨g', cap, cur, rfl, hb0, hgg, hnc, hcm, hcs, ht⟩
    · cases hg
    have e1 : g' = g := by simpa [Value.ownBlock] using hg
    subst e1
    have hst := run_storeCells_at Tryz.prog g' o 5 ((List.replicate n (0 : UInt8)).map byteV) 0 cur w hgg (by rw [List.length_map, List.length_replicate]; omega) (fun v hv => by
      obtain ⟨i, _, rfl⟩ := List.mem_map.1 hv
      rfl)
    rw [Nat.add_zero] at hst
    have hbs := bytes_store (cs := List.replicate n (0 : UInt8)) (o := o) hgg hnc hcm hcs ht (by rw [List.length_replicate]; omega)
    rw [List.length_replicate] at hbs
    refine ⟨_, fun ty => ?_, hbs, setRow_grown w g' _⟩
    rw [← zero_cells] at hst
    obtain ⟨n', rfl⟩ : ∃ n', n = n' + 1 := ⟨n - 1, by omega⟩
    simp only [Builtin.clear_, run_underlying Tryz.underlying42, Sem.run_bind, Sem.run_pure, Result.andThen_ok, List.getElem?_toArray, List.getElem?_cons_zero, zeroU8]
    rw [hst]
    simp only [Result.andThen_ok, zero_cells]
theorem wpList_run_clear {P : Program} {ops : Array Oper} {rest : List Oper} {o : Oper} {a : Act} {w : World} {Q : Exit → Act → World → Prop} (hgd : o.guard = none) (d : Operand) (tys : Array TypeId) (ho : o.op = .call { callee := .builtin .clear, args := #[d], argTypes := tys }) (v : Value) (w' : World)
    (h : (Builtin.clear_ tys o.type #[a.eval d]).run P w = .ok v w') (hk : wpList P ops Q rest (a.put o.dst v) w') : wpList P ops Q (o :: rest) a w :=
  wpList_plain hgd fun K hK => by
    unfold Oper.wp
    have : (execOp a.eval o).run P w = .ok (.value v) w' := by simp [execOp, ho, resolve, invoke, builtin, h, Result.andThen]
    rw [this]
    exact hK _ _ hk
/-! ### the row on its way -/
def crashNot (F : AF) (ft : Nat → Option AFate) (left : Lit → Bool) : List UInt8 := (List.range (F.len ft)).map (fun i => if (F.dirty (i / 64) && !left (.int .i64 ((i / 64 : Nat) : Int))) = true then F.after ft i else F.safe.getD i 0)
theorem crashNot_length (F : AF) (ft : Nat → Option AFate) (left : Lit → Bool) : (crashNot F ft left).length = F.len ft := by simp [crashNot]
theorem crashNot_at (F : AF) (ft : Nat → Option AFate) (left : Lit → Bool) (i : Nat) (h : i < F.len ft) : (crashNot F ft left)[i]? = some (if (F.dirty (i / 64) && !left (.int .i64 ((i / 64 : Nat) : Int))) = true then F.after ft i else F.safe.getD i 0) := by
  unfold crashNot
  rw [List.getElem?_map, List.getElem?_range h]; rfl
theorem crashNot_start {F : AF} (h : F.Ok) (ft : Nat → Option AFate) : crashNot F ft (Maps.has (dirtyD F)) = F.safe ++ (List.replicate (F.len ft) 0).drop F.safe.length := by
  have hge := AF.len_ge F ft
  apply List.ext_getElem?
  intro i
  by_cases hi : i < F.len ft
  · rw [crashNot_at F ft _ i hi]
    have : (F.dirty (i / 64) && !Maps.has (dirtyD F) (.int .i64 ((i / 64 : Nat) : Int))) = false := by
      rw [dirty_has h, decide_eq_true (by omega), Int.toNat_natCast]
      cases F.dirty (i / 64) <;> rfl
    rw [this]
    simp only [Bool.false_eq_true, if_false]
    by_cases hs : i < F.safe.length
    · rw [List.getElem?_append_left hs, getD_at hs]
    · rw [List.getElem?_append_right (by omega), List.getElem?_drop, List.getElem?_replicate, if_pos (by omega), List.getD_eq_getElem?_getD, List.getElem?_eq_none (by omega)]; rfl
  · rw [List.getElem?_eq_none (by rw [crashNot_length]; omega), List.getElem?_eq_none (by simp; omega)]
theorem crashNot_end {F : AF} {ft : Nat → Option AFate} {left : Lit → Bool} (hl : ∀ kl, left kl = false) : crashNot F ft left = F.left ft := by
  unfold crashNot AF.left
  refine List.map_congr_left (fun i _ => ?_)
  rw [hl]
  cases hd : F.dirty (i / 64) with
  | true => rfl
  | false => unfold AF.after; rw [hd]; rfl
theorem seg_step {F : AF} {ft : Nat → Option AFate} {left : Lit → Bool} {s : Nat} (hd : F.dirty s = true) (cs : List UInt8) (hlen : cs.length = sTo s (F.len ft) - sFrom s (F.len ft)) (hcs : ∀ i, sFrom s (F.len ft) ≤ i → i < sTo s (F.len ft) → cs[i - sFrom s (F.len ft)]? = some (F.after ft i)) :
    (crashNot F ft left).take (sFrom s (F.len ft)) ++ cs ++ (crashNot F ft left).drop (sFrom s (F.len ft) + cs.length) = crashNot F ft (fun z => left z && !z.sameKey (.int .i64 (s : Int))) := by
  have h1 := sFromTo s (F.len ft)
  have h2 := sTo_le s (F.len ft)
  have h3 : sFrom s (F.len ft) = min (64 * s) (F.len ft) := rfl
  have h4 : sTo s (F.len ft) = min (sFrom s (F.len ft) + 64) (F.len ft) := rfl
  have hl := crashNot_length F ft left
  rw [hlen, Nat.add_sub_cancel' h1]
  apply List.ext_getElem?
  intro i
  by_cases hi : i < F.len ft
  · rw [crashNot_at F ft _ i hi]
    by_cases ha : i < sFrom s (F.len ft)
    · rw [List.append_assoc, List.getElem?_append_left (by rw [List.length_take]; omega), List.getElem?_take_of_lt ha, crashNot_at F ft _ i hi]
      have hne : ((i / 64 : Nat) : Int) ≠ (s : Int) := by omega
      simp only [Lit.sameKey, hne, and_false, decide_false, Bool.not_false, Bool.and_true]
    · by_cases hb : i < sTo s (F.len ft)
      · rw [List.getElem?_append_left (by rw [List.length_append, List.length_take]; omega), List.getElem?_append_right (by rw [List.length_take]; omega)]
        have e1 : i - ((crashNot F ft left).take (sFrom s (F.len ft))).length = i - sFrom s (F.len ft) := by rw [List.length_take]; omega
        have e2 : i / 64 = s := by omega
        rw [e1, hcs i (by omega) hb, e2, hd]
        simp [Lit.sameKey]
      · rw [List.getElem?_append_right (by rw [List.length_append, List.length_take]; omega), List.getElem?_drop]
        have e1 : sTo s (F.len ft) + (i - ((crashNot F ft left).take (sFrom s (F.len ft)) ++ cs).length) = i := by rw [List.length_append, List.length_take]; omega
        rw [e1, crashNot_at F ft _ i hi]
        have hne : ((i / 64 : Nat) : Int) ≠ (s : Int) := by omega
        simp only [Lit.sameKey, hne, and_false, decide_false, Bool.not_false, Bool.and_true]
  · rw [List.getElem?_eq_none (by rw [List.length_append, List.length_append, List.length_take, List.length_drop]; omega), List.getElem?_eq_none (by rw [crashNot_length]; omega)]
theorem same_step {F : AF} {ft : Nat → Option AFate} {left : Lit → Bool} {s : Nat} (h : ∀ i, i / 64 = s → F.after ft i = F.safe.getD i 0) : crashNot F ft (fun z => left z && !z.sameKey (.int .i64 (s : Int))) = crashNot F ft left := by
  unfold crashNot
  refine List.map_congr_left (fun i _ => ?_)
  by_cases e : i / 64 = s
  · rw [h i e]; split <;> split <;> rfl
  · have hne : ((i / 64 : Nat) : Int) ≠ (s : Int) := by omega
    simp only [Lit.sameKey, hne, and_false, decide_false, Bool.not_false, Bool.and_true]
theorem len_end {F : AF} (h : F.Ok) {ft : Nat → Option AFate} {s : Nat} (hd : F.dirty s = true) (hh : hits (ft s) = true) : endOf F s ≤ F.len ft := by
  unfold AF.len
  exact foldl_max_mem (fun s => F.dirty s && hits (ft s)) (endOf F) _ _ s (List.mem_range.2 (AF.dirty_nsec h s hd)) (by simp [hd, hh])
/-- The piece of what is left and the piece of what was seen are of one size. -/
theorem piece_same {F : AF} (h : F.Ok) {ft : Nat → Option AFate} {s : Nat} (hd : F.dirty s = true) (hh : hits (ft s) = true) : sFrom s (F.len ft) = 64 * s ∧ sFrom s F.seen.length = 64 * s ∧ sTo s (F.len ft) = sTo s F.seen.length := by
  have h1 := len_end h hd hh
  have h2 := AF.len_le h ft
  have h3 := h.dl s hd
  unfold endOf at h1
  unfold sTo sFrom
  omega
end Go.Proofs.YtlkimfmilccanaaGreat
/-
  file.crash.
-/
namespace Go.Proofs.YtlkimfmilccanaaGreat
open Go.RowKit Go.Maps Go.WideMaps
set_option linter.unusedVariables false
set_option linter.unusedSimpArgs false
theorem after_kept {F : AF} {ls : List FT} {k : Key} {s i : Nat} (hd : F.dirty s = true) (hi : i / 64 = s) (hk : (yOf ls k s).kind = 1) : F.after (ftOf ls k) i = F.seen.getD i 0 := by
  unfold AF.after ftOf
  rw [hi, hd, if_pos rfl, firstF_abs]
  unfold yOf at hk
  cases hq : firstF ls k (s : Int) with
  | none => rw [hq] at hk; exact absurd hk (by decide)
  | some x => rw [hq] at hk; exact if_pos hk
theorem after_repl {F : AF} {ls : List FT} {k : Key} {s i : Nat} (hd : F.dirty s = true) (hi : i / 64 = s) (hk : (yOf ls k s).kind = 2) : F.after (ftOf ls k) i = (yOf ls k s).bytes.data.toList.getD (i % 64) 0 := by
  unfold AF.after ftOf
  rw [hi, hd, if_pos rfl, firstF_abs]
  unfold yOf at hk ⊢
  cases hq : firstF ls k (s : Int) with
  | none => rw [hq] at hk; exact absurd hk (by decide)
  | some x =>
    rw [hq] at hk
    have h1 : x.kind = 2 := hk
    show (if x.kind = 1 then _ else if x.kind = 2 then _ else _) = _
    rw [if_neg (by omega), if_pos h1]; rfl
theorem after_lost {F : AF} {ls : List FT} {k : Key} {s i : Nat} (hd : F.dirty s = true) (hi : i / 64 = s) (h1 : (yOf ls k s).kind ≠ 1) (h2 : (yOf ls k s).kind ≠ 2) : F.after (ftOf ls k) i = F.safe.getD i 0 := by
  unfold AF.after ftOf
  rw [hi, hd, if_pos rfl, firstF_abs]
  unfold yOf at h1 h2
  cases hq : firstF ls k (s : Int) with
  | none => rfl
  | some x =>
    rw [hq] at h1 h2
    have h1' : x.kind ≠ 1 := h1
    have h2' : x.kind ≠ 2 := h2
    show (if x.kind = 1 then _ else if x.kind = 2 then _ else _) = _
    rw [if_neg h1', if_neg h2']
/-- What the copy of a kept sector leaves. -/
theorem kept_step {F : AF} (h : F.Ok) {ls : List FT} {k : Key} {left : Lit → Bool} {s : Nat} (hd : F.dirty s = true) (hk : (yOf ls k s).kind = 1) {L N : Nat} (hL : F.len (ftOf ls k) = L) (hN : F.seen.length = N) :
    (crashNot F (ftOf ls k) left).take (sFrom s L) ++ (F.seen.drop (sFrom s N)).take (Nat.min (sTo s N - sFrom s N) (sTo s L - sFrom s L)) ++ (crashNot F (ftOf ls k) left).drop (sFrom s L + Nat.min (sTo s N - sFrom s N) (sTo s L - sFrom s L)) = crashNot F (ftOf ls k) (fun z => left z && !z.sameKey (.int .i64 (s : Int))) := by
  have hh : hits (ftOf ls k s) = true := by rw [hits_y, hk]; rfl
  obtain ⟨p1, p2, p3⟩ := piece_same h hd hh
  rw [hL] at p1 p3
  rw [hN] at p2 p3
  have h2 := sTo_le s N
  have h4 : sTo s L = min (sFrom s L + 64) L := rfl
  have e : Nat.min (sTo s N - sFrom s N) (sTo s L - sFrom s L) = sTo s L - sFrom s L := by rw [p1, p2, p3]; exact Nat.min_self _
  have hlen : ((F.seen.drop (sFrom s N)).take (sTo s L - sFrom s L)).length = sTo s L - sFrom s L := by rw [List.length_take, List.length_drop, hN]; omega
  rw [e]
  have := seg_step (F := F) (ft := ftOf ls k) (left := left) (s := s) hd ((F.seen.drop (sFrom s N)).take (sTo s L - sFrom s L)) (by rw [hL]; exact hlen) (fun i h1 hi2 => ?_)
  · rw [hL, hlen] at this; exact this
  · rw [hL] at h1 hi2 ⊢
    rw [List.getElem?_take_of_lt (by omega), List.getElem?_drop, p2, p1]
    have e3 : 64 * s + (i - 64 * s) = i := by omega
    rw [e3, after_kept hd (by omega) hk, getD_at (by omega)]
theorem repl_step {F : AF} (h : F.Ok) {ls : List FT} {k : Key} {left : Lit → Bool} {s : Nat} (hd : F.dirty s = true) (hk : (yOf ls k s).kind = 2) {L : Nat} (hL : F.len (ftOf ls k) = L) (l1 : List UInt8) (hl1 : l1 = (crashNot F (ftOf ls k) left).take (sFrom s L) ++ List.replicate (sTo s L - sFrom s L) 0 ++ (crashNot F (ftOf ls k) left).drop (sFrom s L + (sTo s L - sFrom s L))) :
    l1.take (sFrom s L) ++ (yOf ls k s).bytes.data.toList.take (sTo s L - sFrom s L) ++ l1.drop (sFrom s L + ((yOf ls k s).bytes.data.toList.take (sTo s L - sFrom s L)).length) = crashNot F (ftOf ls k) (fun z => left z && !z.sameKey (.int .i64 (s : Int))) := by
  have hh : hits (ftOf ls k s) = true := by rw [hits_y, hk]; rfl
  obtain ⟨p1, _, _⟩ := piece_same h hd hh
  rw [hL] at p1
  have h1 := sFromTo s L
  have h2 := sTo_le s L
  have h4 : sTo s L = min (sFrom s L + 64) L := rfl
  have hc := crashNot_length F (ftOf ls k) left
  rw [hL] at hc
  obtain ⟨B, hB⟩ : ∃ B, (yOf ls k s).bytes.data.toList = B := ⟨_, rfl⟩
  rw [hB]
  have htl : ((crashNot F (ftOf ls k) left).take (sFrom s L)).length = sFrom s L := by rw [List.length_take]; omega
  have e1 : l1.take (sFrom s L) = (crashNot F (ftOf ls k) left).take (sFrom s L) := by
    rw [hl1, List.append_assoc, List.take_left' htl]
  obtain ⟨q, hq⟩ : ∃ q, (B.take (sTo s L - sFrom s L)).length = q := ⟨_, rfl⟩
  have hql : q ≤ sTo s L - sFrom s L := by rw [← hq, List.length_take]; omega
  have e2 : l1.drop (sFrom s L + q) = List.replicate (sTo s L - sFrom s L - q) 0 ++ (crashNot F (ftOf ls k) left).drop (sFrom s L + (sTo s L - sFrom s L)) := by
    rw [hl1, List.append_assoc, ← List.drop_drop, List.drop_left' htl, List.drop_append_of_le_length (by rw [List.length_replicate]; exact hql), List.drop_replicate]
  rw [hq, e1, e2, ← List.append_assoc, List.append_assoc ((crashNot F (ftOf ls k) left).take (sFrom s L))]
  have hlen : (B.take (sTo s L - sFrom s L) ++ List.replicate (sTo s L - sFrom s L - q) 0).length = sTo s L - sFrom s L := by rw [List.length_append, hq, List.length_replicate]; omega
  have := seg_step (F := F) (ft := ftOf ls k) (left := left) (s := s) hd (B.take (sTo s L - sFrom s L) ++ List.replicate (sTo s L - sFrom s L - q) 0) (by rw [hL]; exact hlen) (fun i i1 i2 => ?_)
  · rw [hL, hlen] at this; exact this
  · rw [hL] at i1 i2 ⊢
    rw [after_repl hd (by omega) hk, hB]
    have e3 : i % 64 = i - sFrom s L := by omega
    rw [e3]
    by_cases hx : i - sFrom s L < q
    · rw [List.getElem?_append_left (by omega), List.getElem?_take_of_lt (by omega), getD_at (by rw [List.length_take] at hq; omega)]
    · rw [List.getElem?_append_right (by omega), List.getElem?_replicate, if_pos (by omega), List.getD_eq_getElem?_getD, List.getElem?_eq_none (by rw [List.length_take] at hq; omega)]; rfl
/-- The file's struct is laid anew. -/
theorem crash_file {w w6 : World} {c : FC} {F : AF} {lv v2 : Value} {L : List UInt8} (h : FileAt w6 c F) (hb : Below w.heap.size w w6) (hcw : ∀ b, c.has b → b < w.heap.size) (h1 : Bytes w6 0 lv L) (o1 : ∀ b, lv.ownBlock = some b → w.heap.size ≤ b) (h2 : Bytes w6 0 v2 L) (o2 : ∀ b, v2.ownBlock = some b → w.heap.size ≤ b) (hne : ∀ b, lv.ownBlock = some b → v2.ownBlock ≠ some b) (hok : AF.Ok ⟨L, L, fun _ => false⟩) :
    ∃ c', c'.g = c.g ∧ FileAt ((((w6.alloc (.map #[] 0)).setCell ⟨c.g, 0, none⟩ lv).setCell ⟨c.g, 1, none⟩ v2).setCell ⟨c.g, 2, none⟩ (.map (some w6.heap.size))) c' ⟨L, L, fun _ => false⟩ ∧ FStep c c' w ((((w6.alloc (.map #[] 0)).setCell ⟨c.g, 0, none⟩ lv).setCell ⟨c.g, 1, none⟩ v2).setCell ⟨c.g, 2, none⟩ (.map (some w6.heap.size))) := by
  have hg := lt_of_some h.cells
  have hgw := hcw c.g (.inl rfl)
  have ec : (w6.alloc (.map #[] 0)).heap[c.g]? = some (.cells #[c.sv, c.fv, .map (some c.dm)] 99 (0, 0)) := by rw [Below.heap_alloc w6 _ c.g hg]; exact h.cells
  have e0 : ((w6.alloc (.map #[] 0)).setCell ⟨c.g, 0, none⟩ lv).heap[c.g]? = some (.cells #[lv, c.fv, .map (some c.dm)] 99 (0, 0)) := by rw [heap_setCell_same _ c.g 0 _ _ _ ec]; rfl
  have e1 : (((w6.alloc (.map #[] 0)).setCell ⟨c.g, 0, none⟩ lv).setCell ⟨c.g, 1, none⟩ v2).heap[c.g]? = some (.cells #[lv, v2, .map (some c.dm)] 99 (0, 0)) := by rw [heap_setCell_same _ c.g 1 _ _ _ e0]; rfl
  have e2 : ((((w6.alloc (.map #[] 0)).setCell ⟨c.g, 0, none⟩ lv).setCell ⟨c.g, 1, none⟩ v2).setCell ⟨c.g, 2, none⟩ (.map (some w6.heap.size))).heap[c.g]? = some (.cells #[lv, v2, .map (some w6.heap.size)] 99 (0, 0)) := by rw [heap_setCell_same _ c.g 2 _ _ _ e1]; rfl
  have ne : ∀ b, b ≠ c.g → ((((w6.alloc (.map #[] 0)).setCell ⟨c.g, 0, none⟩ lv).setCell ⟨c.g, 1, none⟩ v2).setCell ⟨c.g, 2, none⟩ (.map (some w6.heap.size))).heap[b]? = (w6.alloc (.map #[] 0)).heap[b]? := fun b hb => by
    rw [Below.heap_setCell _ ⟨c.g, 2, none⟩ _ b hb, Below.heap_setCell _ ⟨c.g, 1, none⟩ _ b hb, Below.heap_setCell _ ⟨c.g, 0, none⟩ _ b hb]
  have al : ∀ b, b < w6.heap.size → (w6.alloc (.map #[] 0)).heap[b]? = w6.heap[b]? := fun b hb => Below.heap_alloc w6 _ b hb
  have g1 : lv.ownBlock ≠ some c.g := fun e => by have := o1 _ e; omega
  have g2 : v2.ownBlock ≠ some c.g := fun e => by have := o2 _ e; omega
  refine ⟨⟨c.g, w6.heap.size, lv, v2⟩, rfl, ⟨hok, e2, h1.same (fun k hk => ?_), h2.same (fun k hk => ?_), ?_, g1, g2, hne⟩, rfl, ⟨hb.os, hb.tape, hb.output, by have := hb.size; simp [World.setCell]; omega, fun b hb' hn => ?_⟩, fun b hb' => ?_⟩
  · rw [ne k (fun e => g1 (e ▸ hk)), al k (h1.lt k hk)]
  · rw [ne k (fun e => g2 (e ▸ hk)), al k (h2.lt k hk)]
  · have ed : dirtyD ⟨L, L, fun _ => false⟩ = .map [] := by unfold dirtyD AF.dirtyL; simp
    rw [ed]
    exact ownsMap_same ((World.ownsMap_made w6 Tryz.prog 3 (unitElem (H := Unit))).mono (by omega)) (ne _ (by show w6.heap.size ≠ c.g; omega))
  · rw [ne b (fun e => hn (.inl e)), al b (Nat.lt_of_lt_of_le hb' hb.size), hb.block b hb']
  · rcases hb' with rfl | rfl | hb' | hb'
    · exact .inl (.inl rfl)
    · exact .inr hb.size
    · exact .inr (o1 b hb')
    · exact .inr (o2 b hb')
end Go.Proofs.YtlkimfmilccanaaGreat
