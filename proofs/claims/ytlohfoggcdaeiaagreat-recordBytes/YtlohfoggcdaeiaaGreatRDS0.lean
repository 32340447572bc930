import Derived.Test.YtlohfoggcdaeiaaGreatRRow
import Derived.Test.YtlohfoggcdaeiaaGreatPLaw
/-
  RecordBack: the mathematics of a batch, and laws for its walk (by hand).
-/
namespace Go.Proofs.YtlohfoggcdaeiaaGreat
open Go.RowKit S
set_option linter.unusedVariables false
set_option linter.unusedSimpArgs false
open Cu (nb be hl ofL CW Mw CR Mr RS takeS takeA hOf nil8 doneS)
theorem bmov {o : Oper} {a : Act} (w : World) (x : Operand) (v : Value) (ho : o.op = .move x) (hx : a.eval x = v) : (execOp a.eval o).run Tryz.prog w = .ok (.value v) w := by
  unfold execOp
  simp only [ho, hx]
  rfl
section
variable {P : Program} {ops : Array Oper} {rest : List Oper} {o : Oper} {a : Act} {w : World} {Q : Exit → Act → World → Prop}
theorem wpW_un (op : UnOp) (t : TypeId) (x : Operand) (ho : o.op = .unOp op t x) (X r : Value) (hx : a.eval x = X) (hw : Region.wanted o (yielded ops a.tmps) = true) (hr : (Op.unary op X).run P w = .ok r w)
    (h : wpList P ops Q rest (a.put o.dst r) w) : wpList P ops Q (o :: rest) a w := by
  refine wpList_step fun K hK => ?_
  rw [if_pos hw]
  unfold Oper.wp execOp
  simp only [ho, hx, hr, Sem.run_bind, Sem.run_pure, Result.andThen_ok]
  exact hK _ _ h
theorem run_rem (t : TypeId) (k : IntKind) (X Y Z : Int) (hY : Y ≠ 0) (hZ : X.tmod Y = Z) (w : World) : (binOp .rem t (.int k X) (.int k Y)).run P w = .ok (.int k Z) w := by
  rw [binOp_rem, ← hZ]
  unfold Op.intDiv
  rw [if_neg hY]
  rfl
theorem run_neg (k : IntKind) (X Z : Int) (hZ : k.wrap (0 - X) = Z) (w : World) : (Op.unary .neg (.int k X)).run P w = .ok (.int k Z) w := by
  rw [← hZ]; rfl
end
theorem tmod_range (x : Int) (m : Nat) (hm : 0 < m) : -(m : Int) < x.tmod m ∧ x.tmod m < (m : Int) := by
  rcases Int.lt_or_le x 0 with h | h
  · have h1 := Int.tmod_nonneg (m : Int) (show 0 ≤ -x by omega)
    have h2 := Int.tmod_lt_of_pos (-x) (show (0 : Int) < m by omega)
    rw [Int.neg_tmod] at h1 h2
    omega
  · have h1 := Int.tmod_nonneg (m : Int) h
    have h2 := Int.tmod_lt_of_pos x (show (0 : Int) < m by omega)
    omega
theorem empty_false {b : ByteArray} (h : 0 < b.size) : b.toList.isEmpty = false := by
  rw [Bool.eq_false_iff]
  intro hc
  rw [List.isEmpty_iff, ByteArray.toList_eq] at hc
  have h0 : b.data.toList.length = 0 := by rw [hc]; rfl
  rw [str_len] at h0
  omega
def bytesL (ms : List (Rc × List Upd)) : List UInt8 := ms.flatMap fun m => bytesR m.1 m.2
def lastB (ms : List (Rc × List Upd)) : List UInt8 := match ms.getLast? with
  | some m => bytesR m.1 m.2
  | none => []
theorem lastB_app (ms : List (Rc × List Upd)) (m : Rc × List Upd) : lastB (ms ++ [m]) = bytesR m.1 m.2 := by
  unfold lastB; rw [List.getLast?_append]; rfl
theorem bytesL_app (ms : List (Rc × List Upd)) (m : Rc × List Upd) : bytesL (ms ++ [m]) = bytesL ms ++ bytesR m.1 m.2 := by
  unfold bytesL; rw [List.flatMap_append]; simp
theorem bytesL_cons (ms : List (Rc × List Upd)) (m : Rc × List Upd) : bytesL (m :: ms) = bytesR m.1 m.2 ++ bytesL ms := by
  unfold bytesL; rw [List.flatMap_cons]
structure MOk (w : World) (m : Rc × List Upd) : Prop where
  val : validR m.1 m.2 = true
  len : m.2.length = m.1.upds.n
  upd : Upds w m.1.upds.ad m.2
theorem bytesL_len : ∀ {ms : List (Rc × List Upd)} {w : World}, (∀ m ∈ ms, MOk w m) → (bytesL ms).length ≤ 40000 * ms.length
  | [], _, _ => Nat.le_refl _
  | m :: ms, w, h => by
    rw [bytesL_cons, List.length_append, List.length_cons]
    have h1 := bytesR_len (h m (by simp)).val (h m (by simp)).len
    have h2 := bytesL_len (ms := ms) (w := w) (fun x hx => h x (by simp [hx]))
    omega
theorem last_of {ms : List (Rc × List Upd)} {w : World} (h : ∀ m ∈ ms, MOk w m) (hne : lastB ms ≠ []) : ∃ m, MOk w m ∧ lastB ms = bytesR m.1 m.2 := by
  unfold lastB at hne ⊢
  cases hl : ms.getLast? with
  | none => rw [hl] at hne; exact absurd rfl hne
  | some m => exact ⟨m, h m (List.mem_of_getLast? hl), rfl⟩
theorem ofL_app (a b : List UInt8) : ofL a ++ ofL b = ofL (a ++ b) := by
  apply ByteArray.ext
  rw [ByteArray.data_append]
  apply Array.ext'
  rw [Array.toList_append, Cu.ofL_data, Cu.ofL_data, Cu.ofL_data]
theorem bytesR_pos (r : Rc) (l : List Upd) : 0 < (bytesR r l).length := by unfold bytesR; simp
theorem slOfR {B : Nat} {w : World} {v : Value} {l : List Rc} (h : OwnR B w v l) : ∃ x : Sl, v = x.v := by
  obtain ⟨ad, cap, e, _⟩ := h.at
  exact ⟨⟨ad, l.length, cap⟩, e⟩
theorem OwnR.sl {B : Nat} {w : World} {x : Sl} {l : List Rc} (h : OwnR B w x.v l) : l.length = x.n ∧ l.length ≤ x.c ∧ ∀ i s, l[i]? = some s → ∃ g, x.ad = some ⟨g, 0, none⟩ ∧ g < w.heap.size ∧ B ≤ g ∧ At w g (i * 138) s.v 138 := by
  obtain ⟨ad, cap, e, h1, h2, h3⟩ := h.at
  simp only [Sl.v, Value.slice.injEq] at e
  exact ⟨e.2.1.symm, by rw [e.2.2]; exact h2, by rw [e.1]; exact h1⟩
theorem lr_nil {r : Rc} {l : List Upd} (hv : validR r l = true) (hn : l.length = r.upds.n) (h3 : r.kind ≠ 3) : l.length = 0 := by
  have hb := (validR_own hv).1
  unfold bareB strip at hb
  rw [hn]
  by_cases h1 : r.kind = 1
  · rw [if_pos h1] at hb; simp only [Bool.and_eq_true, beq_iff_eq] at hb; exact Int.ofNat_eq_zero.1 hb.2.1
  rw [if_neg h1] at hb
  by_cases h2 : r.kind = 2
  · rw [if_pos h2] at hb; simp only [Bool.and_eq_true, beq_iff_eq] at hb; exact Int.ofNat_eq_zero.1 hb.2.1
  rw [if_neg h2, if_neg h3] at hb
  by_cases h4 : r.kind = 4
  · rw [if_pos h4] at hb; simp only [Bool.and_eq_true, beq_iff_eq] at hb; exact Int.ofNat_eq_zero.1 hb.2.1
  rw [if_neg h4] at hb
  by_cases h5 : r.kind = 5
  · rw [if_pos h5] at hb; simp only [Bool.and_eq_true, beq_iff_eq] at hb; exact Int.ofNat_eq_zero.1 hb.2.1
  rw [if_neg h5] at hb; simp only [Bool.and_eq_true, beq_iff_eq] at hb; exact Int.ofNat_eq_zero.1 hb.2.1
end Go.Proofs.YtlohfoggcdaeiaaGreat
/-
  The document's Valid of a record, in plain words (by hand).
-/
namespace Go.Proofs.YtlohfoggcdaeiaaGreat
open Go.RowKit S
set_option linter.unusedVariables false
set_option linter.unusedSimpArgs false
def preB (a b : Rc) : Bool := (a.kind == b.kind) && (eqU a.upd b.upd && ((a.idx == b.idx) && (((a.co == b.co) && (a.cp == b.cp)) && (eqH a.sig b.sig && (eqH a.sec b.sec && (eqH a.pt b.pt && (a.code == b.code)))))))
def sameD (a b : Rc) : Bool := preB a b && decide (a.upds.n = b.upds.n)
def ixB (r : Rc) : Bool := decide (0 ≤ r.idx) && decide (r.idx ≤ 281474976710655)
/-- The record that the document names: what the kind's fields say, all else zero. -/
def nam (r : Rc) : Rc :=
  if r.kind = 1 then ⟨1, r.upd, nilS, 0, 0, 0, z32, z32, z32, 0⟩
  else if r.kind = 2 then ⟨2, Upd.zero, nilS, r.idx, r.co, r.cp, z32, z32, z32, 0⟩
  else if r.kind = 3 then ⟨3, Upd.zero, r.upds, r.idx, 0, 0, r.sig, z32, z32, 0⟩
  else if r.kind = 4 then ⟨4, Upd.zero, nilS, r.idx, 0, 0, z32, r.sec, r.pt, 0⟩
  else if r.kind = 5 then ⟨5, Upd.zero, nilS, 0, 0, 0, z32, z32, z32, r.code⟩
  else ⟨6, Upd.zero, nilS, r.idx, 0, 0, z32, z32, z32, 0⟩
/-- What the kind asks beside that. -/
def askD (r : Rc) (l : List Upd) : Bool :=
  if r.kind = 1 then validB r.upd
  else if r.kind = 2 then cntB r.co && cntB r.cp
  else if r.kind = 3 then decide (r.upds.n ≤ 512) && l.all validB
  else if r.kind = 5 then codB r.code
  else true
theorem valid_doc (r : Rc) (l : List Upd) (hk : 1 ≤ r.kind ∧ r.kind ≤ 6) : validR r l = (askD r l && (sameD r (nam r) && ixB r)) := by
  have hR : isRec r.kind = true := by unfold isRec; simp [hk]
  rw [Bool.eq_iff_iff]
  unfold validR
  rw [hR, Bool.true_and]
  by_cases h1 : r.kind = 1
  · unfold strip bareB ownV askD sameD preB nam ixB
    simp only [h1, if_true, Bool.and_eq_true, beq_iff_eq, decide_eq_true_eq, eqU_refl, eqH_refl, nilS, true_and, and_true]
    constructor
    · rintro ⟨⟨b2, b3, ⟨b4, b5⟩, b6, b7, b8, b9⟩, hv⟩
      exact ⟨hv, ⟨⟨b3, ⟨b4, b5⟩, b6, b7, b8, b9⟩, by omega⟩, by omega, by omega⟩
    · rintro ⟨hv, ⟨⟨b3, ⟨b4, b5⟩, b6, b7, b8, b9⟩, b2⟩, _, _⟩
      exact ⟨⟨by omega, b3, ⟨b4, b5⟩, b6, b7, b8, b9⟩, hv⟩
  by_cases h2 : r.kind = 2
  · unfold strip bareB ownV askD sameD preB nam ixB
    simp only [h2, if_true, if_false, Int.reduceEq, Bool.and_eq_true, beq_iff_eq, decide_eq_true_eq, eqU_refl, eqH_refl, nilS, true_and, and_true, idxB_iff, cntB_iff]
    constructor
    · rintro ⟨⟨b1, b2, b6, b7, b8, b9⟩, hi, hc⟩
      exact ⟨hc, ⟨⟨b1, b6, b7, b8, b9⟩, by omega⟩, hi.1, hi.2⟩
    · rintro ⟨hc, ⟨⟨b1, b6, b7, b8, b9⟩, b2⟩, i1, i2⟩
      exact ⟨⟨b1, by omega, b6, b7, b8, b9⟩, ⟨i1, i2⟩, hc⟩
  by_cases h3 : r.kind = 3
  · unfold strip bareB ownV askD sameD preB nam ixB
    simp only [h3, if_true, if_false, Int.reduceEq, Bool.and_eq_true, beq_iff_eq, decide_eq_true_eq, eqU_refl, eqH_refl, nilS, true_and, and_true, idxB_iff]
    constructor
    · rintro ⟨⟨b1, _, ⟨b4, b5⟩, b7, b8, b9⟩, hi, hc⟩
      exact ⟨hc, ⟨b1, ⟨b4, b5⟩, b7, b8, b9⟩, hi.1, hi.2⟩
    · rintro ⟨hc, ⟨b1, ⟨b4, b5⟩, b7, b8, b9⟩, i1, i2⟩
      exact ⟨⟨b1, rfl, ⟨b4, b5⟩, b7, b8, b9⟩, ⟨i1, i2⟩, hc⟩
  by_cases h4 : r.kind = 4
  · unfold strip bareB ownV askD sameD preB nam ixB
    simp only [h4, if_true, if_false, Int.reduceEq, Bool.and_eq_true, beq_iff_eq, decide_eq_true_eq, eqU_refl, eqH_refl, nilS, true_and, and_true, idxB_iff]
    constructor
    · rintro ⟨⟨b1, b2, ⟨b4, b5⟩, b6, b9⟩, hi⟩
      exact ⟨⟨⟨b1, ⟨b4, b5⟩, b6, b9⟩, by omega⟩, hi.1, hi.2⟩
    · rintro ⟨⟨⟨b1, ⟨b4, b5⟩, b6, b9⟩, b2⟩, i1, i2⟩
      exact ⟨⟨b1, by omega, ⟨b4, b5⟩, b6, b9⟩, i1, i2⟩
  by_cases h5 : r.kind = 5
  · unfold strip bareB ownV askD sameD preB nam ixB
    simp only [h5, if_true, if_false, Int.reduceEq, Bool.and_eq_true, beq_iff_eq, decide_eq_true_eq, eqU_refl, eqH_refl, nilS, true_and, and_true]
    constructor
    · rintro ⟨⟨b1, b2, b3, ⟨b4, b5⟩, b6, b7, b8⟩, hc⟩
      exact ⟨hc, ⟨⟨b1, b3, ⟨b4, b5⟩, b6, b7, b8⟩, by omega⟩, by omega, by omega⟩
    · rintro ⟨hc, ⟨⟨b1, b3, ⟨b4, b5⟩, b6, b7, b8⟩, b2⟩, _, _⟩
      exact ⟨⟨b1, by omega, b3, ⟨b4, b5⟩, b6, b7, b8⟩, hc⟩
  have h6 : r.kind = 6 := by omega
  unfold strip bareB ownV askD sameD preB nam ixB
  simp only [h6, if_true, if_false, Int.reduceEq, Bool.and_eq_true, beq_iff_eq, decide_eq_true_eq, eqU_refl, eqH_refl, nilS, true_and, and_true, idxB_iff]
  constructor
  · rintro ⟨⟨b1, b2, ⟨b4, b5⟩, b6, b7, b8, b9⟩, hi⟩
    exact ⟨⟨⟨b1, ⟨b4, b5⟩, b6, b7, b8, b9⟩, by omega⟩, hi.1, hi.2⟩
  · rintro ⟨⟨⟨b1, ⟨b4, b5⟩, b6, b7, b8, b9⟩, b2⟩, i1, i2⟩
    exact ⟨⟨b1, by omega, ⟨b4, b5⟩, b6, b7, b8, b9⟩, i1, i2⟩
theorem valid_none (r : Rc) (l : List Upd) (hk : ¬(1 ≤ r.kind ∧ r.kind ≤ 6)) : validR r l = false := by
  unfold validR isRec
  by_cases h : 1 ≤ r.kind
  · rw [decide_eq_true h, decide_eq_false (by omega : ¬ r.kind ≤ 6)]; rfl
  · rw [decide_eq_false h]; rfl
end Go.Proofs.YtlohfoggcdaeiaaGreat
/-
  The document's Same of two lists of updates of unlike lengths (printed by gen_r30.py).
-/
namespace Go.Proofs.YtlohfoggcdaeiaaGreat
open Go.RowKit S
set_option linter.unusedVariables false
set_option linter.unusedSimpArgs false
open Cu (nb be hl ofL CW Mw CR Mr RS takeS takeA hOf nil8 doneS)
set_option maxRecDepth 100000 in
set_option maxHeartbeats 4000000 in
theorem same12_no (ad1 ad2 : Option Addr) (n1 n2 c1 c2 : Nat) (hne : n1 ≠ n2) (w : World) : Calls Tryz.prog 47 #[.slice ad1 n1 c1, .slice ad2 n2 c2] w fun e w' => e = .returned (.bool false) ∧ Below w.heap.size w w' := by
  have hq : ((n1 : Int) != (n2 : Int)) = true := bne_iff_ne.2 (by omega)
  have hq2 : (n1 != n2) = true := bne_iff_ne.2 hne
  clear hne
  go_enter Tryz.func47, Tryz.ntmps47
  go_wp2
  go_ret
  exact ⟨rfl, Below.refl _ _⟩
end Go.Proofs.YtlohfoggcdaeiaaGreat
/-
  The document's Same of two records: where the answer is known at the 1. comparison (printed by gen_r30.py).
-/
namespace Go.Proofs.YtlohfoggcdaeiaaGreat
open Go.RowKit S
set_option linter.unusedVariables false
set_option linter.unusedSimpArgs false
open Cu (nb be hl ofL CW Mw CR Mr RS takeS takeA hOf nil8 doneS)
set_option maxRecDepth 100000 in
set_option maxHeartbeats 40000000 in
theorem dsame_0 (a b : Rc) (K0 : ((a.kind == b.kind)) = false) (hz : a.upds.n ≤ 140737488351232) (w : World) (hU : a.upds.n = b.upds.n → ∃ l : List Upd, l.length = a.upds.n ∧ Upds w a.upds.ad l ∧ Upds w b.upds.ad l) : Calls Tryz.prog 24 #[.agg (tabv a.v 138), .agg (tabv b.v 138)] w fun e w' => e = .returned (.bool false) ∧ Below w.heap.size w w' := by
  obtain ⟨w2, hW⟩ : ∃ w2, (w.alloc (.cells (tabv a.v 138) 38)).alloc (.cells (tabv b.v 138) 38) = w2 := ⟨_, rfl⟩
  have r1 : Has w2 w.heap.size 38 a.v 138 := by rw [← hW]; exact (Has.new w 38 a.v 138 _ rfl).old _
  have r2 : Has w2 (w.heap.size + 1) 38 b.v 138 := by
    rw [← hW]
    have := Has.new (w.alloc (.cells (tabv a.v 138) 38)) 38 b.v 138 _ rfl
    rw [size_alloc] at this
    exact this
  have gb : Below w.heap.size w w2 := by rw [← hW]; exact ((Below.refl w.heap.size w).alloc (Nat.le_refl _) _).alloc (by simp) _
  have SL : Hid (Calls Tryz.prog 47 #[.slice a.upds.ad a.upds.n a.upds.c, .slice b.upds.ad b.upds.n b.upds.c] w2 fun e w' => e = .returned (.bool (decide (a.upds.n = b.upds.n))) ∧ Below w2.heap.size w2 w') := by
    show Calls _ _ _ _ _
    by_cases hn : a.upds.n = b.upds.n
    · obtain ⟨l, hl, u1, u2⟩ := hU hn
      rw [decide_eq_true hn, ← hn]
      exact same_any a.upds.ad b.upds.ad a.upds.n a.upds.c b.upds.c l hl hz w2 (u1.below gb) (u2.below gb)
    · rw [decide_eq_false hn]
      exact same12_no a.upds.ad b.upds.ad a.upds.n b.upds.n a.upds.c b.upds.c hn w2
  obtain ⟨g1, hg1⟩ : ∃ g, w.heap.size + 1 = g := ⟨_, rfl⟩
  obtain ⟨g0, hg0⟩ : ∃ g, w.heap.size = g := ⟨_, rfl⟩
  rw [hg1] at r2
  rw [hg0] at r1
  have gb2 : Below g0 w w2 := by rw [← hg0]; exact gb
  have H1 := hide hg1
  have H0 := hide hg0
  clear hg0 hg1
  have k0 : w2.cell? ⟨g0, 0, none⟩ = some (.int .i64 a.kind) := r1.cell 0 (by omega)
  have k1 : w2.cell? ⟨g1, 0, none⟩ = some (.int .i64 b.kind) := r2.cell 0 (by omega)
  have k2 : w2.cell? ⟨g0, 38, none⟩ = some (.int .i64 a.idx) := r1.cell 38 (by omega)
  have k3 : w2.cell? ⟨g1, 38, none⟩ = some (.int .i64 b.idx) := r2.cell 38 (by omega)
  have k4 : w2.cell? ⟨g0, 137, none⟩ = some (.int .i64 a.code) := r1.cell 137 (by omega)
  have k5 : w2.cell? ⟨g1, 137, none⟩ = some (.int .i64 b.code) := r2.cell 137 (by omega)
  have k6 : w2.cell? ⟨g0, 37, none⟩ = some (.slice a.upds.ad a.upds.n a.upds.c) := r1.cell 37 (by omega)
  have k7 : w2.cell? ⟨g1, 37, none⟩ = some (.slice b.upds.ad b.upds.n b.upds.c) := r2.cell 37 (by omega)
  have a1 := hide (show At w2 g0 1 a.upd.v 36 from fun j hj => by rw [r1.cell (1 + j) (by omega)]; exact congrArg some (Rc.v_upd _ j hj))
  have a2 := hide (show At w2 g1 1 b.upd.v 36 from fun j hj => by rw [r2.cell (1 + j) (by omega)]; exact congrArg some (Rc.v_upd _ j hj))
  have a3 := hide (show At w2 g0 39 (ctv a.co a.cp) 2 from fun j hj => by rw [r1.cell (39 + j) (by omega)]; match j, hj with | 0, _ => rfl | 1, _ => rfl)
  have a4 := hide (show At w2 g1 39 (ctv b.co b.cp) 2 from fun j hj => by rw [r2.cell (39 + j) (by omega)]; match j, hj with | 0, _ => rfl | 1, _ => rfl)
  have s0 := hide (show At w2 g0 41 (bv a.sig) 32 from fun j hj => by rw [r1.cell (41 + j) (by omega)]; exact congrArg some (Rc.v_sig _ j hj))
  have s1 := hide (show At w2 g1 41 (bv b.sig) 32 from fun j hj => by rw [r2.cell (41 + j) (by omega)]; exact congrArg some (Rc.v_sig _ j hj))
  have s2 := hide (show At w2 g0 73 (bv a.sec) 32 from fun j hj => by rw [r1.cell (73 + j) (by omega)]; exact congrArg some (Rc.v_sec _ j hj))
  have s3 := hide (show At w2 g1 73 (bv b.sec) 32 from fun j hj => by rw [r2.cell (73 + j) (by omega)]; exact congrArg some (Rc.v_sec _ j hj))
  have s4 := hide (show At w2 g0 105 (bv a.pt) 32 from fun j hj => by rw [r1.cell (105 + j) (by omega)]; exact congrArg some (Rc.v_pt _ j hj))
  have s5 := hide (show At w2 g1 105 (bv b.pt) 32 from fun j hj => by rw [r2.cell (105 + j) (by omega)]; exact congrArg some (Rc.v_pt _ j hj))
  clear r1 r2 hU
  go_enter Tryz.func24, Tryz.ntmps24
  go_upto_region 1 with (first | rw [hW] | fail)
  try rw [hW]
  rw [H1.out]
  rw [H0.out]
  clear hW
  go_wp2
  go_ret
  first | exact ⟨rfl, gb⟩ | exact ⟨rfl, gb2⟩
end Go.Proofs.YtlohfoggcdaeiaaGreat
