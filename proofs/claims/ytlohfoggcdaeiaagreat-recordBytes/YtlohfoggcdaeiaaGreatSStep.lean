import Derived.Test.YtlohfoggcdaeiaaGreatURead
import Derived.Laws.AppendOwn
import Derived.WalkKit
import Derived.Test.YtlohfoggcdaeiaaGreatUNext
import Derived.Test.YtlohfoggcdaeiaaGreatTab
/-
  Rows of updates, grown by append; literals.
-/
namespace Go.Proofs.YtlohfoggcdaeiaaGreat
set_option maxRecDepth 20000
open Go.RowKit S
set_option linter.unusedVariables false
set_option linter.unusedSimpArgs false
set_option maxRecDepth 100000 in
theorem run_sliceU (w : World) (s : Upd) : (Instr.buildSlice 27 1 #[(0, .agg (tabv s.v 36))]).run Tryz.prog w = .ok (.slice (some ⟨w.heap.size, 0, none⟩) 1 1) (w.alloc (.cells (tabv s.v 36) 36)) := by
  obtain ⟨i, h1, h2, h3, h4⟩ := infoUP
  have e : Instr.fill (fun i => some (i * 36, 36)) ((Array.range 36).map ((tabv Upd.zero.v 36)[· % 36]!)) [(0, .agg (tabv s.v 36))] = some (tabv s.v 36) := by kernel_rfl
  have ez : (Value.agg (tabv Upd.zero.v 36)).cells = tabv Upd.zero.v 36 := rfl
  simp only [Instr.buildSlice, Sem.run_bind, run_underlying Tryz.underlying27, Result.andThen_ok, sizeOf, typeInfo, h1, h3]
  simp [zeroValue, typeInfo, h1, h2, ez, tabv_size]
  rw [h3, if_neg (by omega), if_neg (by omega), e]
  simp [newRow]
/-- append(v, s) onto a list of one's own. -/
theorem run_appU (w : World) (B : Nat) (v : Value) (l : List Upd) (s : Upd) (ty : TypeId) (hown : OwnU B w v l) (hsz : (l.length + 1) * 72 ≤ 140737488355328) (hB : B ≤ w.heap.size) :
    ∃ v' w', (Builtin.append_ #[27, 27] ty #[v, .slice (some ⟨w.heap.size, 0, none⟩) 1 1]).run Tryz.prog (w.alloc (.cells (tabv s.v 36) 36)) = .ok v' w' ∧ OwnU B w' v' (l ++ [s]) ∧ (w.alloc (.cells (tabv s.v 36) 36)).grownBy w' v.ownBlock := by
  obtain ⟨i, h1, h2, h3, h4⟩ := infoUP
  have hb : Has (w.alloc (.cells (tabv s.v 36) 36)) w.heap.size 36 s.v 36 := Has.new w 36 s.v 36 _ rfl
  have ho : OwnU B (w.alloc (.cells (tabv s.v 36) 36)) v l := World.ownsRow.alloc hown _
  obtain ⟨v', w', e1, e2, e3, _⟩ := run_append_own (P := Tryz.prog) (w.alloc (.cells (tabv s.v 36) 36)) B 27 ty 36 i _ 36 72 Tryz.underlying27 h1 h2 h3 h4 (by rfl) (by omega) v l.length (cellsU l) ho ⟨w.heap.size, 0, none⟩ 1 1 (cellsU [s]) (by rw [cellsU_length]; rfl)
    (fun j u hj => by
      have hj' : j < 36 := by have := (List.getElem?_eq_some_iff.1 hj).1; rw [cellsU_length] at this; simpa using this
      have hadd : (⟨w.heap.size, 0, none⟩ : Addr).add j = ⟨w.heap.size, j, none⟩ := by unfold Addr.add; split <;> simp_all
      rw [hadd, hb.cell j hj', ← hj, cellsU_one, Array.getElem?_toList, tabv_get _ _ _ hj'])
    (oneCell_U _) (by unfold maxLen; omega) hsz (by rw [size_alloc]; omega)
  refine ⟨v', w', e1, ?_, e3⟩
  unfold OwnU
  rw [List.length_append, cellsU_append]
  exact e2
theorem grown_all {w w' : World} {o : Obj} {r : Option Nat} {B : Nat} (h : (w.alloc o).grownBy w' r) (hr : ∀ k, r = some k → B ≤ k) (hB : B ≤ w.heap.size) : (∀ g, g < w.heap.size → r ≠ some g → w'.heap[g]? = w.heap[g]?) ∧ Below B w w' := by
  have h1 : ∀ g, g < w.heap.size → r ≠ some g → w'.heap[g]? = w.heap[g]? := fun g hg hne => by
    rw [h.block g (by rw [size_alloc]; omega) (fun e => hne e.symm)]
    exact heap_alloc_old w o hg
  refine ⟨h1, ⟨h.os, h.tape, h.output, Nat.le_trans (by rw [size_alloc]; omega) h.size, fun k hk => h1 k (by omega) (fun e => by have := hr k e; omega)⟩⟩
theorem appU_step (w : World) (B : Nat) (v : Value) (l : List Upd) (s : Upd) (hown : OwnU B w v l) (hsz : (l.length + 1) * 72 ≤ 140737488355328) (hB : B ≤ w.heap.size) :
    ∃ v' w1 w', (Instr.buildSlice 27 1 #[(0, .agg (tabv s.v 36))]).run Tryz.prog w = .ok (.slice (some ⟨w.heap.size, 0, none⟩) 1 1) w1 ∧ (Builtin.append_ #[27, 27] 27 #[v, .slice (some ⟨w.heap.size, 0, none⟩) 1 1]).run Tryz.prog w1 = .ok v' w' ∧
      OwnU B w' v' (l ++ [s]) ∧ (∀ g, g < w.heap.size → v.ownBlock ≠ some g → w'.heap[g]? = w.heap[g]?) ∧ Below B w w' := by
  obtain ⟨v', w', e1, e2, e3⟩ := run_appU w B v l s 27 hown hsz hB
  obtain ⟨h1, h2⟩ := grown_all e3 (fun k hk => (hown.lt k hk).1) hB
  exact ⟨v', _, w', run_sliceU w s, e1, e2, h1, h2⟩
theorem wpRun {P : Program} {o : Oper} {a : Act} {w w' : World} {next : Act → World → Prop} {Q : Exit → Act → World → Prop} {v : Value} (h : (execOp a.eval o).run P w = .ok (.value v) w') (k : next (a.put o.dst v) w') : Oper.wp P o a w next Q := by
  unfold Oper.wp; rw [h]; exact k
theorem wpList_app {P : Program} {ops : Array Oper} {rest : List Oper} {o : Oper} {a : Act} {w w' : World} {Q : Exit → Act → World → Prop} {v : Value} (hg : o.guard = none) (s x : Operand) (tys : Array TypeId) (ho : o.op = .call { callee := .builtin .append, args := #[s, x], argTypes := tys }) (h : (Builtin.append_ tys o.type #[a.eval s, a.eval x]).run P w = .ok v w') (k : wpList P ops Q rest (a.put o.dst v) w') : wpList P ops Q (o :: rest) a w :=
  wpList_plain hg fun K hK => wpRun (by simp [execOp, ho, resolve, invoke, builtin, h, Result.andThen]) (hK _ _ k)
theorem wpList_slice1 {P : Program} {ops : Array Oper} {rest : List Oper} {o : Oper} {a : Act} {w w' : World} {Q : Exit → Act → World → Prop} {v : Value} (hg : o.guard = none) (T : TypeId) (x : Operand) (ho : o.op = .buildSlice T 1 #[(0, x)]) (y : Value) (hy : a.eval x = y) (h : (Instr.buildSlice T 1 #[(0, y)]).run P w = .ok v w') (k : wpList P ops Q rest (a.put o.dst v) w') : wpList P ops Q (o :: rest) a w :=
  wpList_plain hg fun K hK => wpRun (by simp [execOp, ho, hy, h, Result.andThen]) (hK _ _ k)
theorem run_app_all (w : World) (ad : Option Addr) (cap : Nat) (l : List Upd) (hS : Upds w ad l) (hz : l.length * 72 ≤ 140737488355328) :
    ∃ v' w', (Builtin.append_ #[27, 27] 27 #[.slice none 0 0, .slice ad l.length cap]).run Tryz.prog w = .ok v' w' ∧ OwnU w.heap.size w' v' l ∧ Below w.heap.size w w' := by
  obtain ⟨i, h1, h2, h3, h4⟩ := infoUP
  cases ad with
  | none =>
    have hl : l = [] := by
      rcases hS with rfl | ⟨b, o, h, _⟩
      · rfl
      · cases h
    subst hl
    refine ⟨.slice none 0 0, w, ?_, OwnU.nil _ _, Below.refl _ _⟩
    simp [Builtin.append_, run_underlying Tryz.underlying27, sizeOf, typeInfo, h1, Builtin.lenOf, Builtin.firstCells, storeCells, loadCells, loadCellsFrom]
  | some a =>
    obtain ⟨v', w', e1, e2, e3, _⟩ := run_append_own (P := Tryz.prog) w w.heap.size 27 27 36 i _ 36 72 Tryz.underlying27 h1 h2 h3 h4 (by rfl) (by omega) (.slice none 0 0) 0 [] (World.ownsRow_nil w _ _ _) a l.length cap (cellsU l) (cellsU_length l)
      (fun j u hj => by
        have hjl : j < l.length * 36 := by have := (List.getElem?_eq_some_iff.1 hj).1; rw [cellsU_length] at this; exact this
        rcases hS with rfl | ⟨b, o, ha, _, h⟩
        · simp at hjl
        · cases ha
          have hk : j / 36 < l.length := by omega
          have hs : l[j / 36]? = some l[j / 36] := List.getElem?_eq_getElem hk
          have hc := h (j / 36) _ hs (j % 36) (by omega)
          have hg := cellsU_get l (j / 36) _ hs (j % 36) (by omega)
          rw [show j / 36 * 36 + j % 36 = j by omega, hj] at hg
          have hadd : (⟨b, o, none⟩ : Addr).add j = ⟨b, o + j, none⟩ := by unfold Addr.add; split <;> simp_all
          rw [hadd, hg, ← hc, show o + j / 36 * 36 + j % 36 = o + j by omega])
      (oneCell_U _) (by unfold maxLen; omega) (by omega) (Nat.le_refl _)
    refine ⟨v', w', e1, ?_, ⟨e3.os, e3.tape, e3.output, e3.size, fun k hk => e3.block k hk (by simp [Value.ownBlock])⟩⟩
    unfold OwnU
    rw [Nat.zero_add, List.nil_append] at e2
    exact e2
theorem upds_one (w : World) (s : Upd) : Upds (w.alloc (.cells (tabv s.v 36) 36)) (some ⟨w.heap.size, 0, none⟩) [s] := .inr ⟨w.heap.size, 0, rfl, by simp, fun i u hu => by
  have hi : i = 0 := by have := (List.getElem?_eq_some_iff.1 hu).1; simp at this; exact this
  subst hi
  simp only [List.getElem?_cons_zero, Option.some.injEq] at hu
  subst hu
  have h := Has.new w 36 s.v 36 _ rfl
  intro j hj
  rw [show 0 + 0 * 36 + j = j by omega]
  exact h.cell j hj⟩
section
variable {ops : Array Oper} {rest : List Oper} {o : Oper} {a : Act} {w w' : World} {Q : Exit → Act → World → Prop}
theorem wpW_slice1 {P : Program} {v : Value} (hw : Region.wanted o (yielded ops a.tmps) = true) (T : TypeId) (x : Operand) (ho : o.op = .buildSlice T 1 #[(0, x)]) (y : Value) (hy : a.eval x = y) (h : (Instr.buildSlice T 1 #[(0, y)]).run P w = .ok v w') (k : wpList P ops Q rest (a.put o.dst v) w') : wpList P ops Q (o :: rest) a w := by
  refine wpList_step fun K hK => ?_
  rw [if_pos hw]
  exact wpRun (by simp [execOp, ho, hy, h, Result.andThen]) (hK _ _ k)
theorem wpW_build (hw : Region.wanted o (yielded ops a.tmps) = true) (T : TypeId) (ps : Array (Nat × Operand)) (ho : o.op = .build T ps) (vals : List (Nat × Value)) (he : (ps.map fun (i, y) => (i, a.eval y)).toList = vals) (cs : Array Value) (hb : Tryz.prog.built T vals = some cs)
    (hk : wpList Tryz.prog ops Q rest (a.put o.dst (.agg cs)) w) : wpList Tryz.prog ops Q (o :: rest) a w := by
  refine wpList_step fun K hK => ?_
  rw [if_pos hw]
  refine wp_build _ _ ho (by rw [he, hb]; rfl) ?_
  rw [he, hb]
  exact hK _ _ hk
end
end Go.Proofs.YtlohfoggcdaeiaaGreat
/-
  SEEDS, PLAIN: places, levels, going down.
-/
namespace Go.Proofs.YtlohfoggcdaeiaaGreat
set_option maxRecDepth 20000
/-- Going down by k bits of a place p, the lowest of them lo. -/
def goDown {X : Type} (step : Nat → X → X) (p : Nat) : Nat → Nat → X → X
  | 0, _, P => P
  | k + 1, lo, P => goDown step p k lo (if p.testBit (lo + k) then step (lo + k) P else P)
section
variable {X : Type} (step : Nat → X → X)
theorem goDown_split (p : Nat) (k lo : Nat) : ∀ (j : Nat) (P : X), goDown step p (k + j) lo P = goDown step p k lo (goDown step p j (lo + k) P)
  | 0, P => rfl
  | j + 1, P => by
    rw [show k + (j + 1) = (k + j) + 1 from rfl]
    simp only [goDown]
    rw [goDown_split p k lo j, Nat.add_assoc]
theorem goDown_congr {p q : Nat} (lo : Nat) : ∀ (k : Nat) (P : X), (∀ i, lo ≤ i → i < lo + k → p.testBit i = q.testBit i) → goDown step p k lo P = goDown step q k lo P
  | 0, P, _ => rfl
  | k + 1, P, h => by
    simp only [goDown]
    rw [h (lo + k) (by omega) (by omega)]
    exact goDown_congr lo k _ (fun i h1 h2 => h i h1 (by omega))
theorem goDown_zero {p : Nat} (lo : Nat) : ∀ (k : Nat) (P : X), (∀ i, lo ≤ i → i < lo + k → p.testBit i = false) → goDown step p k lo P = P
  | 0, P, _ => rfl
  | k + 1, P, h => by
    simp only [goDown]
    rw [h (lo + k) (by omega) (by omega)]
    exact goDown_zero lo k _ (fun i h1 h2 => h i h1 (by omega))
end
/-- The level: how many bits at the end are 0, at most m. -/
def lvl (p : Nat) : Nat → Nat
  | 0 => 0
  | m + 1 => if p.testBit 0 then 0 else lvl (p / 2) m + 1
theorem lvl_le (m : Nat) : ∀ p, lvl p m ≤ m := by
  induction m with
  | zero => intro p; exact Nat.le_refl _
  | succ m ih => intro p; unfold lvl; split; omega; have := ih (p / 2); omega
theorem lvl_zeros (m : Nat) : ∀ p i, i < lvl p m → p.testBit i = false := by
  induction m with
  | zero => intro p i h; simp [lvl] at h
  | succ m ih =>
    intro p i h
    unfold lvl at h
    split at h
    · omega
    · rename_i h0
      cases i with
      | zero => simpa using h0
      | succ i =>
        rw [Nat.testBit_succ]
        exact ih (p / 2) i (by omega)
theorem lvl_one (m : Nat) : ∀ p, lvl p m < m → p.testBit (lvl p m) = true := by
  induction m with
  | zero => intro p h; simp [lvl] at h
  | succ m ih =>
    intro p h
    unfold lvl at h ⊢
    split
    · rename_i h0; exact h0
    · rename_i h0
      rw [if_neg h0] at h
      rw [Nat.testBit_succ]
      exact ih (p / 2) (by omega)
theorem mod_zero {p k : Nat} (h : ∀ i, i < k → p.testBit i = false) : p % 2 ^ k = 0 := by
  refine Nat.eq_of_testBit_eq fun i => ?_
  rw [Nat.testBit_mod_two_pow, Nat.zero_testBit]
  by_cases hi : i < k
  · rw [h i hi]; simp
  · simp [hi]
/-- The place of a number. -/
def place (n : Nat) : Nat := 281474976710655 - n
/-- to hangs on from. -/
def Hangs (p q : Nat) : Prop := ∀ i, lvl p 48 ≤ i → i < 48 → p.testBit i = q.testBit i
theorem hangs_div {p q : Nat} (hp : p < 281474976710656) (hq : q < 281474976710656) : Hangs p q ↔ p / 2 ^ lvl p 48 = q / 2 ^ lvl p 48 := by
  have hl := lvl_le 48 p
  constructor
  · intro h
    refine Nat.eq_of_testBit_eq fun i => ?_
    rw [Nat.testBit_div_two_pow, Nat.testBit_div_two_pow]
    by_cases hi : i + lvl p 48 < 48
    · exact h _ (by omega) hi
    · have h2 : (281474976710656 : Nat) ≤ 2 ^ (i + lvl p 48) := by
        rw [show (281474976710656 : Nat) = 2 ^ 48 from rfl]
        exact Nat.pow_le_pow_right (by omega) (by omega)
      rw [Nat.testBit_lt_two_pow (Nat.lt_of_lt_of_le hp h2), Nat.testBit_lt_two_pow (Nat.lt_of_lt_of_le hq h2)]
  · intro h i h1 h2
    have := congrArg (fun z => Nat.testBit z (i - lvl p 48)) h
    simp only [Nat.testBit_div_two_pow] at this
    rw [show i - lvl p 48 + lvl p 48 = i by omega] at this
    exact this
/-- P9.4. -/
theorem hangs_near {a c : Nat} (ha : a ≤ 281474976710655) (hc : c ≤ 281474976710655) : Hangs (place a) (place c) ↔ c ≤ a ∧ a - c < 2 ^ lvl (place a) 48 := by
  unfold place
  rw [hangs_div (by omega) (by omega)]
  have hm := mod_zero (lvl_zeros 48 (281474976710655 - a))
  obtain ⟨m, hmm⟩ : ∃ m, 2 ^ lvl (281474976710655 - a) 48 = m := ⟨_, rfl⟩
  rw [hmm] at hm ⊢
  have hpos : 0 < m := by rw [← hmm]; exact Nat.pow_pos (by omega)
  obtain ⟨k, hk⟩ : ∃ k, (281474976710655 - a) / m = k := ⟨_, rfl⟩
  have hp : 281474976710655 - a = m * k := by
    have := Nat.div_add_mod (281474976710655 - a) m
    rw [hm, hk] at this; omega
  rw [hk]
  constructor
  · intro h
    have h1 := Nat.div_add_mod (281474976710655 - c) m
    have h2 := Nat.mod_lt (281474976710655 - c) hpos
    rw [← h] at h1
    omega
  · rintro ⟨h1, h2⟩
    have h3 : 281474976710655 - c = m * k + (a - c) := by omega
    rw [h3, Nat.mul_add_div hpos, Nat.div_eq_of_lt h2]; omega
section
variable {X : Type} (step : Nat → X → X)
def secretOf (s : X) (n : Nat) : X := goDown step (place n) 48 0 s
def deriveOf (s : X) (a c : Nat) : X := goDown step (place c) (lvl (place a) 48) 0 s
theorem secret_split (s : X) (a : Nat) {l : Nat} (hl : l ≤ 48) : secretOf step s a = goDown step (place a) l 0 (goDown step (place a) (48 - l) l s) := by
  unfold secretOf
  rw [show (48 : Nat) = l + (48 - l) by omega, goDown_split, Nat.zero_add, show l + (48 - l) - l = 48 - l by omega]
/-- P9.2. -/
theorem one_tree (s : X) (a c : Nat) (h : Hangs (place a) (place c)) : deriveOf step (secretOf step s a) a c = secretOf step s c := by
  have hl := lvl_le 48 (place a)
  unfold deriveOf
  rw [secret_split step s c hl, secret_split step s a hl, goDown_zero step (p := place a) 0 _ _ (fun i _ h2 => lvl_zeros 48 _ i (by omega))]
  rw [goDown_congr step _ _ s (fun i h1 h2 => h i h1 (by omega))]
/-- P9.3. -/
theorem in_steps (s : X) (a c e : Nat) (hle : lvl (place c) 48 ≤ lvl (place a) 48) (h2 : Hangs (place c) (place e)) : deriveOf step (deriveOf step s a c) c e = deriveOf step s a e := by
  have hl := lvl_le 48 (place c)
  have hl2 := lvl_le 48 (place a)
  obtain ⟨l, hll⟩ : ∃ l, lvl (place c) 48 = l := ⟨_, rfl⟩
  obtain ⟨k, hkk⟩ : ∃ k, lvl (place a) 48 = k := ⟨_, rfl⟩
  unfold deriveOf
  rw [hll, hkk]
  rw [show k = l + (k - l) by omega, goDown_split, goDown_split, Nat.zero_add]
  rw [goDown_zero step (p := place c) 0 l _ (fun i _ h3 => lvl_zeros 48 _ i (by omega))]
  rw [goDown_congr step (p := place c) (q := place e) l (k - l) s (fun i h3 h4 => h2 i (by omega) (by omega))]
theorem derive_self (s : X) (a : Nat) : deriveOf step s a a = s := by
  unfold deriveOf
  exact goDown_zero step 0 _ _ (fun i _ h2 => lvl_zeros 48 _ i (by omega))
end
end Go.Proofs.YtlohfoggcdaeiaaGreat
/-
  One step down: a bit turned, then the sum.
-/
namespace Go.Proofs.YtlohfoggcdaeiaaGreat
set_option maxRecDepth 20000
open S
-- stands in another text: listOf
/-- One bit of a hash turned. -/
def flipB (B : Nat) (h : Nat → UInt8) : Nat → UInt8 := fun j => if j = B / 8 then h j ^^^ UInt8.ofNat (2 ^ (B % 8)) else h j
def step [Inhabited S.Tbl] (B : Nat) (h : Nat → UInt8) : Nat → UInt8 := sha (listOf (flipB B h))
def flipL (B : Nat) (l : List UInt8) : List UInt8 := (List.range 32).map fun j => if j = B / 8 then l.getD j 0 ^^^ UInt8.ofNat (2 ^ (B % 8)) else l.getD j 0
theorem listOf_getD (h : Nat → UInt8) (j : Nat) (hj : j < 32) : (listOf h).getD j 0 = h j := by
  unfold listOf
  rw [List.getD_eq_getElem?_getD, List.getElem?_map, List.getElem?_range hj]
  rfl
theorem flip_list (B : Nat) (h : Nat → UInt8) : listOf (flipB B h) = flipL B (listOf h) := by
  unfold flipL
  show (List.range 32).map _ = _
  refine List.map_congr_left fun j hj => ?_
  rw [listOf_getD h j (List.mem_range.1 hj)]
  rfl
theorem step_list [Inhabited S.Tbl] (B : Nat) (h : Nat → UInt8) : listOf (step B h) = listOf (sha (flipL B (listOf h))) := by
  unfold step; rw [flip_list]
/-- Of hashes with the same 32 bytes. -/
theorem step_same [Inhabited S.Tbl] {f g : Nat → UInt8} (e : listOf f = listOf g) (B : Nat) : step B f = step B g := by
  unfold step; rw [flip_list, flip_list, e]
theorem goDown_list [Inhabited S.Tbl] {p : Nat} : ∀ (k lo : Nat) {f g : Nat → UInt8}, listOf f = listOf g → listOf (goDown step p k lo f) = listOf (goDown step p k lo g)
  | 0, _, _, _, e => e
  | k + 1, lo, f, g, e => by
    simp only [goDown]
    refine goDown_list k lo ?_
    split
    · rw [step_same e]
    · exact e
set_option maxRecDepth 100000 in
/-- All 48 bits of the place of 0 are 1. -/
theorem secret_ones [Inhabited S.Tbl] (s : Nat → UInt8) : secretOf step s 0 = (step 0 (step 1 (step 2 (step 3 (step 4 (step 5 (step 6 (step 7 (step 8 (step 9 (step 10 (step 11 (step 12 (step 13 (step 14 (step 15 (step 16 (step 17 (step 18 (step 19 (step 20 (step 21 (step 22 (step 23 (step 24 (step 25 (step 26 (step 27 (step 28 (step 29 (step 30 (step 31 (step 32 (step 33 (step 34 (step 35 (step 36 (step 37 (step 38 (step 39 (step 40 (step 41 (step 42 (step 43 (step 44 (step 45 (step 46 (step 47 s)))))))))))))))))))))))))))))))))))))))))))))))) := by
  rfl
set_option maxRecDepth 100000 in
theorem secret_last [Inhabited S.Tbl] (s : Nat → UInt8) : secretOf step s 281474976710654 = step 0 s := by
  rfl
end Go.Proofs.YtlohfoggcdaeiaaGreat
