import Derived.Test.YtlohfoggcdaeiaaGreatRWs
import Derived.Test.YtlohfoggcdaeiaaGreatROpenA
import Derived.Deep.DeepCutAuto
import Derived.Deep.Cut
/-
  Rows side by side: an element written, one appended (by hand).
-/
namespace Go.Proofs.YtlohfoggcdaeiaaGreat
open Go.RowKit S
set_option linter.unusedVariables false
set_option linter.unusedSimpArgs false
theorem Rws.upds {B : Nat} {w : World} {L : List Rw} {F : List Nat} (h : Rws B w L F) {i : Nat} {x : Sl} {l : List Upd} (hi : L[i]? = some (.u x l)) : l.length = x.n ∧ Upds w x.ad l ∧ l.length ≤ x.c := OwnU.sl (h.ok i _ hi)
theorem Rws.slots {B : Nat} {w : World} {L : List Rw} {F : List Nat} (h : Rws B w L F) {i : Nat} {x : Sl} {l : List Slot} (hi : L[i]? = some (.f x l)) : l.length = x.n ∧ Slots w x.ad l ∧ l.length ≤ x.c := OwnS.sl (h.ok i _ hi)
theorem Rws.put [Inhabited S.Tbl] {B : Nat} {w : World} {L : List Rw} {F : List Nat} (h : Rws B w L F) {i : Nat} {x : Sl} {l : List Upd} (hi : L[i]? = some (.u x l)) {j : Nat} (hj : j < l.length) : ∃ g f, x.ad = some ⟨g, 0, none⟩ ∧ Has w g 36 f (x.c * 36) ∧ x.n ≤ x.c ∧ g ∉ F ∧ B ≤ g ∧ ∀ s : Upd, Rws B (w.setRow g (tabv (splice f (j * 36) s.v 36) (x.c * 36))) (L.set i (.u x (l.set j s))) F := by
  have ho : OwnU B w x.v l := h.ok i _ hi
  have hl := (OwnU.sl ho).1
  obtain ⟨ad, n, c⟩ := x
  simp only at hl
  obtain ⟨g, f, e, hH, hmc, hn⟩ := OwnU.storeAt (ad := ad) (m := n) (cap := c) ho hl (j := j) (by omega)
  subst e
  have hb : (Rw.u ⟨some ⟨g, 0, none⟩, n, c⟩ l).x.v.ownBlock = some g := rfl
  exact ⟨g, f, rfl, hH, hmc, h.fa i _ hi g hb, ((h.ok i _ hi).lt g hb).1, fun s => h.step hi (StepOn.row g _) (hn s) (fun k hk => .inl hk)⟩
theorem Rws.putS [Inhabited S.Tbl] {B : Nat} {w : World} {L : List Rw} {F : List Nat} (h : Rws B w L F) {i : Nat} {x : Sl} {l : List Slot} (hi : L[i]? = some (.f x l)) {j : Nat} (hj : j < l.length) : ∃ g f, x.ad = some ⟨g, 0, none⟩ ∧ Has w g 49 f (x.c * 34) ∧ x.n ≤ x.c ∧ g ∉ F ∧ B ≤ g ∧ ∀ s : Slot, Rws B (w.setRow g (tabv (splice f (j * 34) s.v 34) (x.c * 34))) (L.set i (.f x (l.set j s))) F := by
  have ho : OwnS B w x.v l := h.ok i _ hi
  have hl := (OwnS.sl ho).1
  obtain ⟨ad, n, c⟩ := x
  simp only at hl
  obtain ⟨g, f, e, hH, hmc, hn⟩ := OwnS.storeAt (ad := ad) (m := n) (cap := c) ho hl (j := j) (by omega)
  subst e
  have hb : (Rw.f ⟨some ⟨g, 0, none⟩, n, c⟩ l).x.v.ownBlock = some g := rfl
  exact ⟨g, f, rfl, hH, hmc, h.fa i _ hi g hb, ((h.ok i _ hi).lt g hb).1, fun s => h.step hi (StepOn.row g _) (hn s) (fun k hk => .inl hk)⟩
theorem Rws.push [Inhabited S.Tbl] {B : Nat} {w : World} {L : List Rw} {F : List Nat} (h : Rws B w L F) {i : Nat} {x : Sl} {l : List Upd} (hi : L[i]? = some (.u x l)) (s : Upd) (hsz : (l.length + 1) * 72 ≤ 140737488355328) (hB : B ≤ w.heap.size) :
    ∃ x' w1 w', (Instr.buildSlice 27 1 #[(0, .agg (tabv s.v 36))]).run Tryz.prog w = .ok (.slice (some ⟨w.heap.size, 0, none⟩) 1 1) w1 ∧ (Builtin.append_ #[27, 27] 27 #[.slice x.ad x.n x.c, .slice (some ⟨w.heap.size, 0, none⟩) 1 1]).run Tryz.prog w1 = .ok (.slice x'.ad x'.n x'.c) w' ∧
      Rws B w' (L.set i (.u x' (l ++ [s]))) F ∧ (∀ g ∈ F, w'.heap[g]? = w.heap[g]?) ∧ Below B w w' := by
  obtain ⟨v', w1, w', RS, RA, O9, gr9, bl9, own9, _⟩ := appU_at w B x.v l s (h.ok i _ hi) hsz hB
  obtain ⟨x', rfl⟩ := slOf O9
  have st : StepOn w w' (Rw.u x l).x.v.ownBlock := ⟨gr9, bl9.size⟩
  exact ⟨x', w1, w', RS, RA, h.step hi st O9 own9, fun g hg => h.fixed hi st hg, bl9⟩
theorem Rws.pushS [Inhabited S.Tbl] {B : Nat} {w : World} {L : List Rw} {F : List Nat} (h : Rws B w L F) {i : Nat} {x : Sl} {l : List Slot} (hi : L[i]? = some (.f x l)) (s : Slot) (hsz : (l.length + 1) * 48 ≤ 140737488355328) (hB : B ≤ w.heap.size) :
    ∃ x' w1 w', (Instr.buildSlice 29 1 #[(0, .agg (tabv s.v 34))]).run Tryz.prog w = .ok (.slice (some ⟨w.heap.size, 0, none⟩) 1 1) w1 ∧ (Builtin.append_ #[29, 29] 29 #[.slice x.ad x.n x.c, .slice (some ⟨w.heap.size, 0, none⟩) 1 1]).run Tryz.prog w1 = .ok (.slice x'.ad x'.n x'.c) w' ∧
      Rws B w' (L.set i (.f x' (l ++ [s]))) F ∧ (∀ g ∈ F, w'.heap[g]? = w.heap[g]?) ∧ Below B w w' := by
  obtain ⟨v', w1, w', RS, RA, O9, gr9, bl9, own9, _⟩ := appS_at w B x.v l s (h.ok i _ hi) hsz hB
  obtain ⟨x', rfl⟩ := slOfS O9
  have st : StepOn w w' (Rw.f x l).x.v.ownBlock := ⟨gr9, bl9.size⟩
  exact ⟨x', w1, w', RS, RA, h.step hi st O9 own9, fun g hg => h.fixed hi st hg, bl9⟩
theorem Rws.cell {B : Nat} {w : World} {L : List Rw} {F : List Nat} (h : Rws B w L F) {g : Nat} (hg : g ∈ F) (i : Nat) (v : Value) : Rws B (w.setCell ⟨g, i, none⟩ v) L F :=
  h.other hg (fun k hk => heap_setCell_other w _ k v hk) (by simp)
/-- A row whose first so many are written over. -/
def ow {α : Type} (z : α) (l : List α) (j : Nat) : List α := List.replicate j z ++ l.drop j
theorem ow_zero {α : Type} (z : α) (l : List α) : ow z l 0 = l := by unfold ow; simp
theorem ow_len {α : Type} (z : α) (l : List α) (j : Nat) (hj : j ≤ l.length) : (ow z l j).length = l.length := by unfold ow; simp; omega
theorem ow_set {α : Type} (z : α) (l : List α) (j : Nat) (hj : j < l.length) : (ow z l j).set j z = ow z l (j + 1) := by
  unfold ow
  rw [List.set_append_right _ _ (by simp), List.length_replicate, Nat.sub_self, List.drop_eq_getElem_cons hj, List.set_cons_zero, List.replicate_succ', List.append_assoc]
  rfl
theorem ow_all {α : Type} (z : α) (l : List α) : ow z l l.length = List.replicate l.length z := by unfold ow; simp
theorem ow_get {α : Type} (z : α) (n i : Nat) (hi : i < n) : (List.replicate n z)[i]? = some z := by rw [List.getElem?_replicate, if_pos hi]
theorem OwnU.congr {B : Nat} {w : World} {v : Value} {vs us : List Upd} (h : OwnU B w v vs) (he : eqUs vs us) : OwnU B w v us := by
  have hc : ∀ {vs us : List Upd}, eqUs vs us → cellsU vs = cellsU us := fun {vs us} => by
    induction vs generalizing us with
    | nil =>
      intro h
      cases us with
      | nil => rfl
      | cons _ _ => exact h.elim
    | cons a vs ih =>
      intro h
      cases us with
      | nil => exact h.elim
      | cons b us => rw [cellsU_cons, cellsU_cons, ih h.2, show tabv a.v 36 = tabv b.v 36 from tabv_congr _ _ _ fun i hi => eqU_cells h.1 i hi]
  unfold OwnU at h ⊢
  rw [← hc he, ← eqUs_len he]
  exact h
end Go.Proofs.YtlohfoggcdaeiaaGreat
/-
  RecordSteps: what it leans on (printed by gen_r13.py).
-/
namespace Go.Proofs.YtlohfoggcdaeiaaGreat
open Go.RowKit S
set_option linter.unusedVariables false
set_option linter.unusedSimpArgs false
open Cu (nb be hl ofL CW Mw CR Mr RS takeS takeA hOf nil8 doneS)
theorem and_lt (x : Int) (k : Nat) (hk : k ≤ 62) : 0 ≤ bits .and .i64 x ((2 ^ k - 1 : Nat) : Int) ∧ bits .and .i64 x ((2 ^ k - 1 : Nat) : Int) < ((2 ^ k : Nat) : Int) := by
  have e : bits .and .i64 x ((2 ^ k - 1 : Nat) : Int) = IntKind.i64.wrap ((BitVec.ofInt 64 x &&& BitVec.ofInt 64 ((2 ^ k - 1 : Nat) : Int)).toNat : Int) := rfl
  have h0 : (2 : Nat) ^ k ≤ 2 ^ 62 := Nat.pow_le_pow_right (by omega) hk
  have h00 : 0 < (2 : Nat) ^ k := Nat.pow_pos (by omega)
  have e1 : BitVec.ofInt 64 ((2 ^ k - 1 : Nat) : Int) = BitVec.ofNat 64 (2 ^ k - 1) := rfl
  have h1 : (BitVec.ofInt 64 x &&& BitVec.ofInt 64 ((2 ^ k - 1 : Nat) : Int)).toNat ≤ 2 ^ k - 1 := by
    rw [BitVec.toNat_and, e1, BitVec.toNat_ofNat]
    refine Nat.le_trans Nat.and_le_right ?_
    exact Nat.mod_le _ _
  rw [e, IntKind.wrap_i64]
  generalize (BitVec.ofInt 64 x &&& BitVec.ofInt 64 ((2 ^ k - 1 : Nat) : Int)).toNat = m at h1
  generalize (2 : Nat) ^ k = q at *
  omega
def rvR (x : Int) (h k : Nat → UInt8) : Rc := ⟨4, Upd.zero, nilS, x, 0, 0, z32, h, k, 0⟩
def cmR (x : Int) (h : Nat → UInt8) : Rc := ⟨3, Upd.zero, nilS, x, 0, 0, h, z32, z32, 0⟩
def flR (c : Int) : Rc := ⟨5, Upd.zero, nilS, 0, 0, 0, z32, z32, z32, c⟩
def clR (x : Int) : Rc := ⟨6, Upd.zero, nilS, x, 0, 0, z32, z32, z32, 0⟩
set_option maxRecDepth 100000 in
theorem builtRx (x : Int) : Tryz.prog.built 38 [(0, .int .i64 2), (3, .int .i64 x)] = some (tabv (sgR x 0 0).v 138) := by kernel_rfl
set_option maxRecDepth 100000 in
theorem builtRv4 (x : Int) (h k : Nat → UInt8) : Tryz.prog.built 38 [(0, .int .i64 4), (3, .int .i64 x), (6, .agg (tabv (bv h) 32)), (7, .agg (tabv (bv k) 32))] = some (tabv (rvR x h k).v 138) := by kernel_rfl
set_option maxRecDepth 100000 in
theorem builtCm3 (x : Int) (h : Nat → UInt8) : Tryz.prog.built 38 [(0, .int .i64 3), (3, .int .i64 x), (5, .agg (tabv (bv h) 32))] = some (tabv (cmR x h).v 138) := by kernel_rfl
set_option maxRecDepth 100000 in
theorem builtFl (c : Int) : Tryz.prog.built 38 [(0, .int .i64 5), (8, .int .i64 c)] = some (tabv (flR c).v 138) := by kernel_rfl
set_option maxRecDepth 100000 in
theorem builtCl (x : Int) : Tryz.prog.built 38 [(0, .int .i64 6), (3, .int .i64 x)] = some (tabv (clR x).v 138) := by kernel_rfl
section
variable {s : St} {lo lp : List Upd} {ls : List Slot}
theorem ok_sg [Inhabited S.Tbl] (x a b : Int) (hx : 0 ≤ x ∧ x ≤ 281474976710655) (ha : 0 ≤ a ∧ a ≤ 2048) (hb : 0 ≤ b ∧ b ≤ 2048) : apOk s lo lp ls (sgR x a b) [] = sgOk s lo x a b := by
  have hv : validR (sgR x a b) [] = true := by
    show (true && (bareB (sgR 0 0 0) && (idxB x && (cntB a && cntB b)))) = true
    rw [(idxB_iff x).2 hx, (cntB_iff a).2 ha, (cntB_iff b).2 hb, show bareB (sgR 0 0 0) = true by decide +kernel]; rfl
  unfold apOk; rw [hv]; rfl
theorem ok_rv [Inhabited S.Tbl] (x : Int) (h k : Nat → UInt8) (hx : 0 ≤ x ∧ x ≤ 281474976710655) : apOk s lo lp ls (rvR x h k) [] = rvOk s ls x h := by
  have hv : validR (rvR x h k) [] = true := by
    show (true && (bareB (rvR 0 z32 z32) && idxB x)) = true
    rw [(idxB_iff x).2 hx, show bareB (rvR 0 z32 z32) = true by decide +kernel]; rfl
  unfold apOk; rw [hv]; rfl
theorem ok_cm [Inhabited S.Tbl] (x : Int) (h : Nat → UInt8) (hx : 0 ≤ x ∧ x ≤ 281474976710655) : apOk s lo lp ls (cmR x h) [] = cmOk s lo lp x [] := by
  have hv : validR (cmR x h) [] = true := by
    show (true && (bareB (cmR 0 z32) && (idxB x && true))) = true
    rw [(idxB_iff x).2 hx, show bareB (cmR 0 z32) = true by decide +kernel]; rfl
  unfold apOk; rw [hv]; rfl
theorem ok_cl [Inhabited S.Tbl] (x : Int) (hx : 0 ≤ x ∧ x ≤ 281474976710655) : apOk s lo lp ls (clR x) [] = (x == s.loc) := by
  have hv : validR (clR x) [] = true := by
    show (true && (bareB (clR 0) && idxB x)) = true
    rw [(idxB_iff x).2 hx, show bareB (clR 0) = true by decide +kernel]; rfl
  unfold apOk; rw [hv]; rfl
theorem ok_fl [Inhabited S.Tbl] (c : Int) : apOk s lo lp ls (flR c) [] = codB c := by
  have hv : validR (flR c) [] = codB c := by
    show (true && (bareB (flR 0) && codB c)) = codB c
    rw [show bareB (flR 0) = true by decide +kernel]; rfl
  unfold apOk; rw [hv]
  show (codB c && true) = codB c
  rw [Bool.and_true]
end
theorem put_none [Inhabited S.Tbl] (x : Int) (h : Nat → UInt8) (hx : 0 ≤ x ∧ x ≤ 281474976710655) : (putA [] x h).2 = 0 ∧ (putA [] x h).1.length = 49 := by
  unfold putA
  rw [if_neg (by simp), if_neg (by rw [(isN_iff x).2 hx]; simp), if_pos (by rw [List.all_eq_true]; intro j _; rfl)]
  exact ⟨rfl, withA_length _ _ _⟩
theorem guardPt : Tryz.prog.eqGuardType Tryz.prog.depth 28 = false := by kernel_rfl
theorem partPt (w : World) (a b : Nat → UInt8) : (part 25 (tabv (pv a b) 64) 0).run Tryz.prog w = .ok (.agg (tabv (bv a) 32)) w ∧ (part 25 (tabv (pv a b) 64) 32).run Tryz.prog w = .ok (.agg (tabv (bv b) 32)) w := by
  have hi : (Tryz.prog.info? 25).map (·.size) = some 32 := by kernel_rfl
  cases hq : Tryz.prog.info? 25 with
  | none => simp [hq] at hi
  | some i =>
    have hs : i.size = 32 := by simpa [hq] using hi
    have e1 : (tabv (pv a b) 64).extract 0 32 = tabv (bv a) 32 := by
      refine tabv_ext _ _ _ (by simp [tabv_size]) fun i hi => ?_
      rw [Array.getElem?_extract, tabv_get _ _ _ (by omega)]
      simp only [tabv_size]
      rw [if_pos (by omega)]
      unfold pv bv
      rw [if_pos (by omega), Nat.zero_add]
    have e2 : (tabv (pv a b) 64).extract 32 64 = tabv (bv b) 32 := by
      refine tabv_ext _ _ _ (by simp [tabv_size]) fun i hi => ?_
      rw [Array.getElem?_extract, tabv_get _ _ _ (by omega)]
      simp only [tabv_size]
      rw [if_pos (by omega)]
      unfold pv bv
      rw [if_neg (by omega), show 32 + i - 32 = i by omega]
    constructor
    · simp [part, isAgg, run_underlying Tryz.underlying25, sizeOf, typeInfo, hq, hs, e1]
    · simp [part, isAgg, run_underlying Tryz.underlying25, sizeOf, typeInfo, hq, hs, e2]
theorem eqItems2 (P : Program) (d : Nat) (T : TypeId) (w : World) (X Y : Array Value) (f g : Nat → Value) (E : Nat → Bool) (hX : ∀ i, i < 2 → (part T X (i * 32)).run P w = .ok (f i) w) (hY : ∀ i, i < 2 → (part T Y (i * 32)).run P w = .ok (g i) w) (hE : ∀ i, i < 2 → (Op.equalIn d T (f i) (g i)).run P w = .ok (E i) w) : ∀ is : List Nat, (∀ i ∈ is, i < 2) → (Op.eqItems d T 32 X Y is).run P w = .ok (is.all E) w
  | [], _ => by simp [Op.eqItems]
  | i :: is, h => by
    have hi := h i (by simp)
    have ih := eqItems2 P d T w X Y f g E hX hY hE is (fun j hj => h j (by simp [hj]))
    simp only [Op.eqItems, Sem.run_bind, hX i hi, hY i hi, hE i hi, Result.andThen_ok, List.all_cons]
    cases E i
    · simp
    · simpa using ih
theorem eqPt_d (d : Nat) (w : World) (a b c d' : Nat → UInt8) : (Op.equalIn (d + 3) 28 (.agg (tabv (pv a b) 64)) (.agg (tabv (pv c d') 64))).run Tryz.prog w = .ok (eqH a c && eqH b d') w := by
  obtain ⟨i, hi⟩ : ∃ i, Tryz.prog.info? 25 = some i := Option.isSome_iff_exists.1 (by kernel_rfl)
  have hc : Tryz.prog.cellsOf 25 = 32 := by kernel_rfl
  have h1 := run_equalIn_array w (d + 2) (tabv (pv a b) 64) (tabv (pv c d') 64) Tryz.underlying28 hi
  rw [hc] at h1
  have h2 := eqItems2 Tryz.prog (d + 2) 25 w (tabv (pv a b) 64) (tabv (pv c d') 64) (fun i => if i = 0 then .agg (tabv (bv a) 32) else .agg (tabv (bv b) 32)) (fun i => if i = 0 then .agg (tabv (bv c) 32) else .agg (tabv (bv d') 32)) (fun i => if i = 0 then eqH a c else eqH b d')
    (fun i hi => by
      rcases (show i = 0 ∨ i = 1 by omega) with e | e
      · rw [e, Nat.zero_mul, if_pos rfl]; exact (partPt w a b).1
      · rw [e, Nat.one_mul, if_neg (by omega)]; exact (partPt w a b).2)
    (fun i hi => by
      rcases (show i = 0 ∨ i = 1 by omega) with e | e
      · rw [e, Nat.zero_mul, if_pos rfl]; exact (partPt w c d').1
      · rw [e, Nat.one_mul, if_neg (by omega)]; exact (partPt w c d').2)
    (fun i hi => by
      rcases (show i = 0 ∨ i = 1 by omega) with e | e
      · rw [e, if_pos rfl, if_pos rfl, if_pos rfl]; exact eqHD d w _ _
      · rw [e, if_neg (by omega), if_neg (by omega), if_neg (by omega)]; exact eqHD d w _ _)
    (List.range 2) (fun i hi => List.mem_range.1 hi)
  refine h1.trans (h2.trans ?_)
  refine congrArg (fun b => Result.ok b w) ?_
  show (List.all [0, 1] _) = _
  simp only [List.all_cons, List.all_nil, if_pos, if_neg, Bool.and_true, Nat.one_ne_zero, if_false]
theorem eqPtD (w : World) (a b c d : Nat → UInt8) : (Op.equalIn 10000 28 (.agg (tabv (pv a b) 64)) (.agg (tabv (pv c d) 64))).run Tryz.prog w = .ok (eqH a c && eqH b d) w := eqPt_d 9997 w a b c d
theorem run_eqPt {o : Oper} {a : Act} (w : World) (x y : Operand) (A B : Array Value) (R : Bool) (ho : o.op = .binOp .eql 28 x y 28) (hx : a.eval x = .agg A) (hy : a.eval y = .agg B)
    (hq : ∀ w : World, (Op.equalIn 10000 28 (.agg A) (.agg B)).run Tryz.prog w = .ok R w) : (execOp a.eval o).run Tryz.prog w = .ok (.value (.bool R)) w := by
  have gh := guardPt
  unfold execOp
  simp only [ho, hx, hy]
  go_simp
theorem run_nePt {o : Oper} {a : Act} (w : World) (x y : Operand) (A B : Array Value) (R : Bool) (ho : o.op = .binOp .neq 28 x y 28) (hx : a.eval x = .agg A) (hy : a.eval y = .agg B)
    (hq : ∀ w : World, (Op.equalIn 10000 28 (.agg A) (.agg B)).run Tryz.prog w = .ok R w) : (execOp a.eval o).run Tryz.prog w = .ok (.value (.bool (!R))) w := by
  have gh := guardPt
  unfold execOp
  simp only [ho, hx, hy]
  go_simp
theorem wpW_eqPt {ops : Array Oper} {rest : List Oper} {o : Oper} {a : Act} {w : World} {Q : Exit → Act → World → Prop} (hw : Region.wanted o (yielded ops a.tmps) = true) (x y : Operand) (ho : o.op = .binOp .eql 28 x y 28) (A B : Array Value) (R : Bool) (hx : a.eval x = .agg A) (hy : a.eval y = .agg B)
    (hq : ∀ w : World, (Op.equalIn 10000 28 (.agg A) (.agg B)).run Tryz.prog w = .ok R w) (k : wpList Tryz.prog ops Q rest (a.put o.dst (.bool R)) w) : wpList Tryz.prog ops Q (o :: rest) a w := by
  refine wpList_step fun K hK => ?_
  rw [if_pos hw]
  exact wpRun (run_eqPt w x y A B R ho hx hy hq) (hK _ _ k)
theorem wpW_nePt {ops : Array Oper} {rest : List Oper} {o : Oper} {a : Act} {w : World} {Q : Exit → Act → World → Prop} (hw : Region.wanted o (yielded ops a.tmps) = true) (x y : Operand) (ho : o.op = .binOp .neq 28 x y 28) (A B : Array Value) (R : Bool) (hx : a.eval x = .agg A) (hy : a.eval y = .agg B)
    (hq : ∀ w : World, (Op.equalIn 10000 28 (.agg A) (.agg B)).run Tryz.prog w = .ok R w) (k : wpList Tryz.prog ops Q rest (a.put o.dst (.bool (!R))) w) : wpList Tryz.prog ops Q (o :: rest) a w := by
  refine wpList_step fun K hK => ?_
  rw [if_pos hw]
  exact wpRun (run_nePt w x y A B R ho hx hy hq) (hK _ _ k)
theorem Has.atPts {w : World} {g : Nat} {s : St} (h : Has w g 31 s.v 115) : At w g 16 (pv s.p0 s.p1) 64 := fun j hj => by
  rw [h.cell (16 + j) (by omega)]
  unfold pv
  by_cases e : j < 32
  · rw [if_pos e]; exact congrArg some (St.v_p0 s j e)
  · rw [if_neg e]
    have := St.v_p1 s (j - 32) (by omega)
    rw [show 48 + (j - 32) = 16 + j by omega] at this
    exact congrArg some this
theorem Has.atSt {w : World} {g : Nat} {s : St} (h : Has w g 31 s.v 115) (k : Nat) (a b : Int) (hk : k + 2 ≤ 115) (e1 : s.v k = .int .i64 a) (e2 : s.v (k + 1) = .int .i64 b) : At w g k (ctv a b) 2 := fun j hj => by
  rw [h.cell (k + j) (by omega)]
  rcases (show j = 0 ∨ j = 1 by omega) with rfl | rfl
  · exact congrArg some e1
  · exact congrArg some e2
theorem Has.atSSig {w : World} {g : Nat} {s : St} (h : Has w g 31 s.v 115) : At w g 80 (bv s.sig) 32 := fun j hj => by rw [h.cell (80 + j) (by omega)]; exact congrArg some (St.v_sig s j hj)
end Go.Proofs.YtlohfoggcdaeiaaGreat
