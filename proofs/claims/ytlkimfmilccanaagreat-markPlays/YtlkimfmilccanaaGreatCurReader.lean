import Derived.Test.YtlkimfmilccanaaGreatCurLay
import Derived.Lib.UnsafeStr
import Derived.Deep.OwnRows
/-
  The writer: put of each kind, New, Len.
-/
namespace Go.Proofs.YtlkimfmilccanaaGreat.Fr
open Go.RowKit
/-- Block p is a struct of two cells. -/
def Two (T : TypeId) (w : World) (p : Nat) (v : Value) (f : Int) : Prop := w.heap[p]? = some (.cells #[v, .int .i64 f] T (0, 0))
section
variable {T : TypeId} {w w' : World} {p : Nat} {v v' : Value} {f : Int}
theorem Two.c0 (h : Two T w p v f) : w.cell? ⟨p, 0, none⟩ = some v := by rw [cell_of_row w p 0 _ T (0, 0) h]; rfl
theorem Two.c1 (h : Two T w p v f) : w.cell? ⟨p, 1, none⟩ = some (.int .i64 f) := by rw [cell_of_row w p 1 _ T (0, 0) h]; rfl
theorem Two.fz (h : Two T w p v f) (i : Nat) : w.frozen? ⟨p, i, none⟩ = false := frozen_of_row w p i _ T h
theorem Two.lt (h : Two T w p v f) : p < w.heap.size := by
  rcases Nat.lt_or_ge p w.heap.size with hl | hl
  · exact hl
  · unfold Two at h; rw [Array.getElem?_eq_none hl] at h; cases h
theorem Two.set0 (h : Two T w p v f) (u : Value) : Two T (w.setCell ⟨p, 0, none⟩ u) p u f := by
  unfold Two; rw [heap_setCell_same w p 0 _ T _ h]; rfl
theorem Two.set1 (h : Two T w p v f) (g : Int) : Two T (w.setCell ⟨p, 1, none⟩ (.int .i64 g)) p v g := by
  unfold Two; rw [heap_setCell_same w p 1 _ T _ h]; rfl
theorem Two.same (h : Two T w p v f) (e : w'.heap[p]? = w.heap[p]?) : Two T w' p v f := by unfold Two; rw [e]; exact h
theorem Two.new (w : World) (T : TypeId) (v : Value) (f : Int) : Two T (w.alloc (.cells #[v, .int .i64 f] T)) w.heap.size v f := heap_alloc_new w _
end
/-- A step on what lies at p and on v: nothing else that was there has turned. -/
structure Mw (p : Nat) (w : World) (v : Value) (w' : World) (v' : Value) : Prop where
  os : w'.os = w.os
  tape : w'.tape = w.tape
  output : w'.output = w.output
  size : w.heap.size ≤ w'.heap.size
  block : ∀ k, k < w.heap.size → k ≠ p → v.ownBlock ≠ some k → w'.heap[k]? = w.heap[k]?
  own : ∀ g, v'.ownBlock = some g → v.ownBlock = some g ∨ w.heap.size ≤ g
theorem Mw.refl (p : Nat) (w : World) (v : Value) : Mw p w v w v := ⟨rfl, rfl, rfl, Nat.le_refl _, fun _ _ _ _ => rfl, fun _ h => .inl h⟩
theorem Mw.trans {p : Nat} {w w1 w2 : World} {v v1 v2 : Value} (h : Mw p w v w1 v1) (k : Mw p w1 v1 w2 v2) : Mw p w v w2 v2 := by
  refine ⟨k.os.trans h.os, k.tape.trans h.tape, k.output.trans h.output, Nat.le_trans h.size k.size, fun i hi hp hn => ?_, fun g hg => ?_⟩
  · refine (k.block i (Nat.lt_of_lt_of_le hi h.size) hp (fun e => ?_)).trans (h.block i hi hp hn)
    rcases h.own i e with h1 | h1
    · exact hn h1
    · omega
  · have := h.size
    rcases k.own g hg with h1 | h1
    · exact h.own g h1
    · exact .inr (by omega)
theorem Mw.below {p B : Nat} {w w' : World} {v v' : Value} (h : Mw p w v w' v') (hp : B ≤ p) (hB : B ≤ w.heap.size) (hv : ∀ k, v.ownBlock = some k → B ≤ k) : Below B w w' :=
  ⟨h.os, h.tape, h.output, h.size, fun k hk => h.block k (by omega) (by omega) (fun e => by have := hv k e; omega)⟩
theorem Mw.of {p : Nat} {w w' : World} {v v' : Value} (h : Mv w v w' v') : Mw p w v w' v' := ⟨h.gr.os, h.gr.tape, h.gr.output, h.gr.size, fun k hk _ hn => h.gr.block k hk (fun e => hn e.symm), h.own⟩
theorem Mw.of_below {p : Nat} {w w' : World} {v : Value} (h : Below w.heap.size w w') : Mw p w v w' v := ⟨h.os, h.tape, h.output, h.size, fun k hk _ _ => h.block k hk, fun _ h => .inl h⟩
/-- The program's writer at p: what it has, or broken. -/
def CW (w : World) (p : Nat) (v : Value) : Option (List UInt8) → Prop
  | some l => Two 156 w p v 0 ∧ Bytes w (p + 1) v l
  | none => Two 156 w p v 3 ∧ v = .slice none 0 0
theorem CW.lt {w : World} {p : Nat} {v : Value} {s : Option (List UInt8)} (h : CW w p v s) : p < w.heap.size := by
  cases s with
  | none => exact h.1.lt
  | some l => exact h.1.lt
theorem CW.own {w : World} {p : Nat} {v : Value} {s : Option (List UInt8)} (h : CW w p v s) : ∀ k, v.ownBlock = some k → p + 1 ≤ k ∧ k < w.heap.size := by
  cases s with
  | none => intro k hk; rw [h.2] at hk; simp [Value.ownBlock] at hk
  | some l => exact fun k hk => ⟨h.2.block k hk, h.2.lt k hk⟩
theorem Bytes.same {w w' : World} {B : Nat} {v : Value} {l : List UInt8} (h : Bytes w B v l) (e : ∀ k, v.ownBlock = some k → w'.heap[k]? = w.heap[k]?) : Bytes w' B v l := by
  refine ⟨h.1, ?_⟩
  rcases h.2 with hn | ⟨g, cap, cur, rfl, hb, hgg, rest⟩
  · exact .inl hn
  · exact .inr ⟨g, cap, cur, rfl, hb, by rw [e g rfl]; exact hgg, rest⟩
theorem Bytes.shape {w : World} {B : Nat} {v : Value} {l : List UInt8} (h : Bytes w B v l) : ∃ ad n c, v = .slice ad n c := by
  rcases h.2 with hn | ⟨g, cap, cur, rfl, _⟩
  · exact ⟨none, 0, 0, hn.1⟩
  · exact ⟨_, _, _, rfl⟩
/-- Untouched blocks: the writer stands. -/
theorem CW.same {w w' : World} {p : Nat} {v : Value} {s : Option (List UInt8)} (h : CW w p v s) (e1 : w'.heap[p]? = w.heap[p]?) (e2 : ∀ k, v.ownBlock = some k → w'.heap[k]? = w.heap[k]?) : CW w' p v s := by
  cases s with
  | none => exact ⟨h.1.same e1, h.2⟩
  | some l => exact ⟨h.1.same e1, h.2.same e2⟩
theorem CW.below {w w' : World} {p : Nat} {v : Value} {s : Option (List UInt8)} (h : CW w p v s) (hb : Below w.heap.size w w') : CW w' p v s :=
  h.same (hb.block p h.lt) (fun k hk => hb.block k (h.own k hk).2)
/-- Behind an append and the store into the field. -/
theorem stored {T : TypeId} {f : Int} {w w1 : World} {p : Nat} {v v1 : Value} {l l' : List UInt8} (h : Two T w p v f) (hB : Bytes w (p + 1) v l) (hM : Mv w v w1 v1) (hB1 : Bytes w1 (p + 1) v1 l') :
    Two T w1 p v f ∧ Two T (w1.setCell ⟨p, 0, none⟩ v1) p v1 f ∧ Bytes (w1.setCell ⟨p, 0, none⟩ v1) (p + 1) v1 l' ∧ Mw p w v (w1.setCell ⟨p, 0, none⟩ v1) v1 := by
  have e : w1.heap[p]? = w.heap[p]? := hM.gr.block p h.lt (fun e => by have := hB.block p e.symm; omega)
  have h1 := h.same e
  refine ⟨h1, h1.set0 v1, ownsRow_setCell_below hB1 (by show p < p + 1; omega) v1, ?_⟩
  refine ⟨hM.gr.os, hM.gr.tape, hM.gr.output, by simpa using hM.gr.size, fun k hk hp hn => ?_, hM.own⟩
  rw [Below.heap_setCell w1 ⟨p, 0, none⟩ v1 k hp]
  exact hM.gr.block k hk (fun e => hn e.symm)
set_option maxHeartbeats 1000000 in
theorem put_32 (X : Int) (x : Nat) (hX : X = (x : Int)) (p : Nat) (v : Value) (s : Option (List UInt8)) (w : World) (h : CW w p v s) (hl : ∀ l, s = some l → l.length + 4 ≤ 140737488355328) :
    Calls Tryz.prog 103 #[.pointer (some ⟨p, 0, none⟩), .int .u32 X] w fun e w' => e = .returned (.tuple #[]) ∧ ∃ v', CW w' p v' (s.map (· ++ nb x 4)) ∧ Mw p w v w' v' := by
  have HX := hide hX
  have HL := hide hl
  clear hl hX
  cases s with
  | none =>
    have c1 := h.1.c1
    go_enter Tryz.func103, Tryz.ntmps103
    go_wp2
    go_end0
    exact ⟨rfl, v, h, Mw.refl _ _ _⟩
  | some l =>
    have c1 := h.1.c1
    have c0 := h.1.c0
    go_enter Tryz.func103, Tryz.ntmps103
    go_wp2_with fail
    refine (lay_32 X x HX.out v l (p + 1) _ h.2 (by have := h.1.lt; omega) (HL.out l rfl)).mono ?_
    rintro e w1 ⟨v1, rfl, hB1, hM⟩
    obtain ⟨ad, n1, c1', rfl⟩ := hB1.shape
    obtain ⟨t1, t2, t3, t4⟩ := stored h.1 h.2 hM hB1
    have d0 := t1.c0
    have df := t1.fz 0
    go_wp2
    go_end0
    exact ⟨rfl, _, ⟨t2, t3⟩, t4⟩
theorem wU32 (X : Int) (x : Nat) (hX : X = (x : Int)) (p : Nat) (v : Value) (s : Option (List UInt8)) (w : World) (h : CW w p v s) (hl : ∀ l, s = some l → l.length + 4 ≤ 140737488355328) :
    Calls Tryz.prog 73 #[.pointer (some ⟨p, 0, none⟩), .int .u32 X] w fun e w' => e = .returned (.tuple #[]) ∧ ∃ v', CW w' p v' (s.map (· ++ nb x 4)) ∧ Mw p w v w' v' := by
  have HL := hide hl
  have HX := hide hX
  clear hl hX
  go_enter Tryz.func73, Tryz.ntmps73
  go_wp2_with fail
  refine (put_32 X x HX.out p v s _ h HL.out).mono ?_
  rintro e w1 ⟨rfl, h1⟩
  go_wp2
  go_end0
  exact ⟨rfl, h1⟩
set_option maxHeartbeats 1000000 in
theorem put_64 (X : Int) (x : Nat) (hX : X = (x : Int)) (p : Nat) (v : Value) (s : Option (List UInt8)) (w : World) (h : CW w p v s) (hl : ∀ l, s = some l → l.length + 8 ≤ 140737488355328) :
    Calls Tryz.prog 102 #[.pointer (some ⟨p, 0, none⟩), .int .u64 X] w fun e w' => e = .returned (.tuple #[]) ∧ ∃ v', CW w' p v' (s.map (· ++ nb x 8)) ∧ Mw p w v w' v' := by
  have HX := hide hX
  have HL := hide hl
  clear hl hX
  cases s with
  | none =>
    have c1 := h.1.c1
    go_enter Tryz.func102, Tryz.ntmps102
    go_wp2
    go_end0
    exact ⟨rfl, v, h, Mw.refl _ _ _⟩
  | some l =>
    have c1 := h.1.c1
    have c0 := h.1.c0
    go_enter Tryz.func102, Tryz.ntmps102
    go_wp2_with fail
    refine (lay_64 X x HX.out v l (p + 1) _ h.2 (by have := h.1.lt; omega) (HL.out l rfl)).mono ?_
    rintro e w1 ⟨v1, rfl, hB1, hM⟩
    obtain ⟨ad, n1, c1', rfl⟩ := hB1.shape
    obtain ⟨t1, t2, t3, t4⟩ := stored h.1 h.2 hM hB1
    have d0 := t1.c0
    have df := t1.fz 0
    go_wp2
    go_end0
    exact ⟨rfl, _, ⟨t2, t3⟩, t4⟩
end Go.Proofs.YtlkimfmilccanaaGreat.Fr
/-
  The writer: I64, Raw, Text, Len, New, stop.
-/
namespace Go.Proofs.YtlkimfmilccanaaGreat.Fr
open Go.RowKit
theorem str_len (r : ByteArray) : r.data.toList.length = r.size := by rw [Array.length_toList]; rfl
theorem wpList_append_src {ops : Array Oper} {rest : List Oper} {o : Oper} {a : Act} {w : World} {Q : Exit → Act → World → Prop} (hgd : o.guard = none) (sl x : Operand) (tx : TypeId)
    (ho : o.op = .call { callee := .builtin .append, args := #[sl, x], argTypes := #[42, tx] }) (B : Nat) (v : Value) (l : List UInt8) (hs : a.eval sl = v) (hown : Bytes w B v l) (X : Value) (news : List UInt8) (hx : a.eval x = X) (hsrc : Src Tryz.prog 1 tx X news.length (news.map byteV) w)
    (hlen : l.length + news.length ≤ 140737488355328) (hB : B ≤ w.heap.size)
    (h : ∀ ad n c w', Bytes w' B (.slice ad n c) (l ++ news) → Mv w v w' (.slice ad n c) → wpList Tryz.prog ops Q rest (a.put o.dst (.slice ad n c)) w') : wpList Tryz.prog ops Q (o :: rest) a w := by
  obtain ⟨v', w', hr, h1, h2⟩ := run_append_bytes w B o.type tx v l news hown X hsrc hlen hB
  obtain ⟨ad, n, c, rfl⟩ := h1.shape
  refine wpList_plain hgd fun K hK => ?_
  unfold Oper.wp execOp
  simp only [ho, resolve, invoke, builtin, Sem.run_bind, Sem.run_pure, Result.andThen_ok, List.map_toArray, List.map_cons, List.map_nil, hs, hx, hr]
  exact hK _ _ (h _ _ _ _ h1 h2)
theorem src_text (s : ByteArray) (w : World) : Src Tryz.prog 1 9 (.string s) s.data.toList.length (s.data.toList.map byteV) w := by
  rw [str_len]; exact Src.ofString w Tryz.underlying9 s
set_option maxHeartbeats 1000000 in
theorem wI64 (X : Int) (x : Nat) (hX : IntKind.u64.wrap X = (x : Int)) (p : Nat) (v : Value) (s : Option (List UInt8)) (w : World) (h : CW w p v s) (hl : ∀ l, s = some l → l.length + 8 ≤ 140737488355328) :
    Calls Tryz.prog 71 #[.pointer (some ⟨p, 0, none⟩), .int .i64 X] w fun e w' => e = .returned (.tuple #[]) ∧ ∃ v', CW w' p v' (s.map (· ++ nb x 8)) ∧ Mw p w v w' v' := by
  have HL := hide hl
  obtain ⟨Z, hZ⟩ : ∃ Z : Int, (x : Int) = Z := ⟨_, rfl⟩
  have hc : ∀ w : World, (convert 2 158 (.int .i64 X)).run Tryz.prog w = .ok (.int .u64 Z) w := fun w => by
    have h := run_convert_int (P := Tryz.prog) (w := w) 2 158 .i64 X (by kernel_rfl) (by kernel_rfl)
    rw [show Tryz.prog.intKind 158 = .u64 by kernel_rfl, hX, hZ] at h
    exact h
  have HC := hide hc
  have HZ := hide hZ.symm
  clear hl hX hZ hc
  go_enter Tryz.func71, Tryz.ntmps71
  go_wp2_with (first | (refine wpList_conv rfl _ _ _ rfl .i64 .u64 X Z (by rfl) (HC.out _) ?_) | fail)
  refine (put_64 Z x HZ.out p v s _ h HL.out).mono ?_
  rintro e w1 ⟨rfl, h1⟩
  go_wp2
  go_end0
  exact ⟨rfl, h1⟩
set_option maxHeartbeats 1000000 in
theorem wRaw (t : ByteArray) (p : Nat) (v : Value) (s : Option (List UInt8)) (w : World) (h : CW w p v s) (hl : ∀ l, s = some l → l.length + t.size ≤ 140737488355328) :
    Calls Tryz.prog 74 #[.pointer (some ⟨p, 0, none⟩), .string t] w fun e w' => e = .returned (.tuple #[]) ∧ ∃ v', CW w' p v' (s.map (· ++ t.data.toList)) ∧ Mw p w v w' v' := by
  have HL := hide hl
  clear hl
  cases s with
  | none =>
    have c1 := h.1.c1
    go_enter Tryz.func74, Tryz.ntmps74
    go_wp2
    go_end0
    exact ⟨rfl, v, h, Mw.refl _ _ _⟩
  | some l =>
    have c1 := h.1.c1
    have c0 := h.1.c0
    have hp : p + 1 ≤ w.heap.size := by have := h.1.lt; omega
    have HP := hide hp
    clear hp
    have HLL : Hid (l.length + t.data.toList.length ≤ 140737488355328) := by
      show _ ≤ _
      rw [str_len]; exact HL.out l rfl
    go_enter Tryz.func74, Tryz.ntmps74
    go_wp2_with (at_builtin; refine wpList_append_src rfl _ _ 9 rfl (p + 1) v l (by rfl) h.2 (.string t) t.data.toList (by rfl) (src_text t _) HLL.out HP.out ?_; intro ad n1 c1' w1 hB1 hM; obtain ⟨t1, t2, t3, t4⟩ := stored h.1 h.2 hM hB1; have d0 := t1.c0; have df := t1.fz 0)
    go_end0
    exact ⟨rfl, _, ⟨t2, t3⟩, t4⟩
-- left out in this seat: wLen
set_option maxHeartbeats 1000000 in
theorem wNew (w : World) : Calls Tryz.prog 70 #[] w fun e w' => e = .returned (.pointer (some ⟨w.heap.size, 0, none⟩)) ∧ CW w' w.heap.size (.slice none 0 0) (some []) ∧ Below w.heap.size w w' ∧ w'.heap.size = w.heap.size + 1 := by
  go_enter Tryz.func70, Tryz.ntmps70
  go_wp2
  go_ret
  exact ⟨rfl, ⟨Two.new w 156 _ 0, Bytes.nil _ _⟩, (Below.refl _ _).alloc (Nat.le_refl _) _, by simp⟩
end Go.Proofs.YtlkimfmilccanaaGreat.Fr
/-
  The writer: Out.
-/
namespace Go.Proofs.YtlkimfmilccanaaGreat.Fr
open Go.RowKit
theorem Bytes.cells {w : World} {B g n cap : Nat} {l : List UInt8} (h : Bytes w B (.slice (some ⟨g, 0, none⟩) n cap) l) (i : Nat) (hi : i < l.length) : w.cell? ⟨g, i, none⟩ = some (byteV (byteAt l i)) := by
  rcases h.2 with ⟨h1, _⟩ | ⟨g', cap', cur, h1, hb, hg, hnc, hcm, hcs, htake⟩
  · cases h1
  · simp only [Value.slice.injEq, Option.some.injEq, Addr.mk.injEq, and_true] at h1
    obtain ⟨rfl, rfl, rfl⟩ := h1
    rw [cell_of_row w g i cur 5 (0, 0) hg]
    rw [Nat.mul_one] at htake
    have e : (cur.toList.take l.length)[i]? = (l.map byteV)[i]? := by rw [htake]
    rw [List.getElem?_take_of_lt hi, List.getElem?_map, List.getElem?_eq_getElem hi, Array.getElem?_toList] at e
    rw [e]
    unfold byteAt
    rw [List.getD_eq_getElem?_getD, List.getElem?_eq_getElem hi]
    rfl
theorem conv_nil (w : World) : (convert 42 9 (.slice none 0 0)).run Tryz.prog w = .ok (.string ⟨#[]⟩) w := by
  have hd : (convert 42 9 (.slice none 0 0)).run Tryz.prog w = .ok (.string ⟨#[]⟩) w := by
    simp [convert, run_underlying Tryz.underlying42, run_underlying Tryz.underlying9, run_underlying Tryz.underlying5, Conv.bytesToString, loadCells]
    try rfl
  exact hd
theorem Bytes.conv {w : World} {B : Nat} {v : Value} {l : List UInt8} (h : Bytes w B v l) : (convert 42 9 v).run Tryz.prog w = .ok (.string ⟨l.toArray⟩) w := by
  rcases h.2 with ⟨rfl, hl⟩ | ⟨g, cap, cur, rfl, hb, hg, _⟩
  · have e : l = [] := List.length_eq_zero_iff.1 hl
    subst e
    exact conv_nil w
  · have hr := run_convert_bytes_arg w 42 5 Tryz.underlying42 Tryz.underlying5 g 0 l.length cap (l.map fun c => (c.toNat : Int)) (by simp) (fun i hi => by
      rw [Nat.zero_add, h.cells i hi]
      unfold byteAt byteV
      rw [List.getD_eq_getElem?_getD, List.getElem?_eq_getElem hi]
      simp [hi]) 9 Tryz.underlying9
    have e : strOfNums (l.map fun c => (c.toNat : Int)) = ⟨l.toArray⟩ := by
      simp only [strOfNums, List.map_map, Function.comp_def, Int.toNat_natCast]
      simp
    rw [e] at hr
    exact hr
theorem below_drewN {B : Nat} {w w' : World} (h : Below B w w') (n : Nat) : Below B w (w'.drewN n) := ⟨h.os, h.tape, h.output, h.size, h.block⟩
def outS (s : Option (List UInt8)) : ByteArray := ⟨(s.getD []).toArray⟩
def outE (s : Option (List UInt8)) : Int := if s.isSome then 0 else 3
set_option maxHeartbeats 1000000 in
theorem wOut (p : Nat) (v : Value) (s : Option (List UInt8)) (w : World) (h : CW w p v s) :
    Calls Tryz.prog 72 #[.pointer (some ⟨p, 0, none⟩)] w fun e w' => e = .returned (.tuple #[.string (outS s), .int .i64 (outE s)]) ∧ Below w.heap.size w w' := by
  have hT : Two 156 w p v (outE s) := by cases s with | none => exact h.1 | some l => exact h.1
  have hc : ∀ m, (convert 42 9 v).run Tryz.prog (w.drewN m) = .ok (.string (outS s)) (w.drewN m) := fun m => by
    cases s with
    | none => rw [h.2]; exact conv_nil _
    | some l => exact Bytes.conv (w := w.drewN m) h.2
  have c0 := hT.c0
  have c1 := hT.c1
  generalize outS s = S at hc ⊢
  generalize outE s = E at c1 ⊢
  clear hT h
  go_enter Tryz.func72, Tryz.ntmps72
  go_wp2
  go_quiet (fail)
  go_wp2
  go_ret2
  exact ⟨rfl, below_drewN (Below.refl _ _) nq⟩
end Go.Proofs.YtlkimfmilccanaaGreat.Fr
/-
  strings.Clone: the same text.
-/
namespace Go.Proofs.YtlkimfmilccanaaGreat.Fr
open Go.RowKit
section
variable {ops : Array Oper} {rest : List Oper} {o : Oper} {a : Act} {w : World} {Q : Exit → Act → World → Prop}
theorem wpList_make_bytes (hgd : o.guard = none) (l c : Operand) (ho : o.op = .makeSlice 42 l c) (n : Nat) (hl : a.eval l = .int .i64 (n : Int)) (hc : a.eval c = .int .i64 (n : Int)) (hn : n ≤ 281474976710656)
    (h : ∀ w1 cur, w1.heap[w.heap.size]? = some (.cells cur 5 (0, 0)) → cur.size = n → Below w.heap.size w w1 → w1.heap.size = w.heap.size + 1 → wpList Tryz.prog ops Q rest (a.put o.dst (.slice (some ⟨w.heap.size, 0, none⟩) n n)) w1) : wpList Tryz.prog ops Q (o :: rest) a w := by
  have hr := run_make_row' (P := Tryz.prog) 42 5 (.int .u8 0) 1 Tryz.underlying42 info5 rfl .i64 .i64 n (by omega) (by omega) w
  refine wpList_plain hgd fun K hK => ?_
  unfold Oper.wp execOp
  simp only [ho, hl, hc, hr, Sem.run_bind, Sem.run_pure, Result.andThen_ok]
  refine hK _ _ (h _ _ (heap_alloc_new w _) ?_ ((Below.refl _ _).alloc (Nat.le_refl _) _) (by simp))
  simp [madeCells]
theorem size5 (w : World) : (sizeOf 5).run Tryz.prog w = .ok 1 w := by
  have h : (Tryz.prog.info? 5).map (·.size) = some 1 := by kernel_rfl
  cases hq : Tryz.prog.info? 5 with
  | none => simp [hq] at h
  | some i => simp [hq] at h; simp [sizeOf, typeInfo, hq, h]
/-- copy(b[..n], s), b the head of block g. -/
theorem run_copy_text (w : World) (ty : TypeId) (g o dLen dCap : Nat) (r : ByteArray) (t : TypeId) (cur : Array Value) (hle : r.size ≤ dLen) (hg : w.heap[g]? = some (.cells cur t (0, 0))) (hfit : o + r.size ≤ cur.size) :
    (Builtin.copy_ #[42, 9] ty #[.slice (some ⟨g, o, none⟩) dLen dCap, .string r]).run Tryz.prog w =
      .ok (goInt r.size) (w.setRow g (cur.toList.take o ++ r.data.toList.map byteV ++ cur.toList.drop (o + (r.data.toList.map byteV).length)).toArray) := by
  have hst := run_storeCells_at Tryz.prog g o t (r.data.toList.map byteV) 0 cur w hg (by rw [List.length_map, str_len]; omega) (fun v hv => by
    obtain ⟨i, _, rfl⟩ := List.mem_map.1 hv
    rfl)
  rw [Nat.add_zero] at hst
  have hq := size5 w
  have hm : Nat.min r.size dLen = r.size := Nat.min_eq_left hle
  have ht : List.take r.size (List.map (fun b : UInt8 => Value.int IntKind.u8 (b.toNat : Int)) r.data.toList) = r.data.toList.map byteV := by
    rw [List.take_of_length_le (by rw [List.length_map, str_len]; exact Nat.le_refl _)]; rfl
  simp [Builtin.copy_, run_underlying Tryz.underlying42, Builtin.lenOf, Builtin.firstCells, hq, hm]
  rw [ht, hst]
  simp [Result.andThen]
theorem wpList_copy_text (hgd : o.guard = none) (d s : Operand) (ho : o.op = .call { callee := .builtin .copy, args := #[d, s], argTypes := #[42, 9] }) (g dLen dCap : Nat) (r : ByteArray) (hd : a.eval d = .slice (some ⟨g, 0, none⟩) dLen dCap) (hs : a.eval s = .string r)
    (t : TypeId) (cur : Array Value) (hle : r.size ≤ dLen) (hg : w.heap[g]? = some (.cells cur t (0, 0))) (hfit : cur.size = r.size)
    (h : ∀ w1, w1.heap[g]? = some (.cells (r.data.toList.map byteV).toArray t (0, 0)) → Below g w w1 → wpList Tryz.prog ops Q rest (a.put o.dst (.int .i64 (r.size : Int))) w1) : wpList Tryz.prog ops Q (o :: rest) a w := by
  have hr := run_copy_text w o.type g 0 dLen dCap r t cur hle hg (by omega)
  have e : (cur.toList.take 0 ++ r.data.toList.map byteV ++ cur.toList.drop (0 + (r.data.toList.map byteV).length)).toArray = (r.data.toList.map byteV).toArray := by
    rw [List.take_zero, List.nil_append, List.drop_of_length_le (by simp; omega), List.append_nil]
  rw [e] at hr
  refine wpList_plain hgd fun K hK => ?_
  unfold Oper.wp execOp
  simp only [ho, resolve, invoke, builtin, Sem.run_bind, Sem.run_pure, Result.andThen_ok, List.map_toArray, List.map_cons, List.map_nil, hd, hs, hr]
  exact hK _ _ (h _ (setRow_heap w g cur _ t _ hg) ⟨rfl, rfl, rfl, by simp, fun k hk => setRow_other w g k _ (by omega)⟩)
theorem wpList_unsafe_text (hgd : o.guard = none) (d s : Operand) (ho : o.op = .call { callee := .builtin .unsafeString, args := #[d, s], argTypes := #[173, 3] }) (g : Nat) (r : ByteArray) (hd : a.eval d = .pointer (some ⟨g, 0, none⟩)) (hs : a.eval s = .int .i64 (r.size : Int))
    (hr0 : 0 < r.size) (hr1 : r.size ≤ 9223372036854775807) (hg : w.heap[g]? = some (.cells (r.data.toList.map byteV).toArray 5 (0, 0)))
    (h : ∀ w1, Below g w w1 → wpList Tryz.prog ops Q rest (a.put o.dst (.string r)) w1) : wpList Tryz.prog ops Q (o :: rest) a w := by
  have hsh : w.shape? g = some (5, r.size) := by simp [World.shape?, hg]
  have hr := Lib.run_unsafeString_row (P := Tryz.prog) w 173 3 o.type 5 Tryz.underlying173 (by kernel_rfl) g r.size hsh r.data.toList (by rw [← List.length_pos_iff, str_len]; exact hr0) (by rw [str_len]; exact Nat.le_refl _) (by rw [str_len]; exact hr1) (fun j x hx => by
    have hadd : (⟨g, 0, none⟩ : Addr).add j = ⟨g, j, none⟩ := by unfold Addr.add; split <;> simp_all
    rw [hadd, cell_of_row w g j _ 5 (0, 0) hg, List.getElem?_toArray, List.getElem?_map, hx]; rfl)
  rw [str_len] at hr
  refine wpList_plain hgd fun K hK => ?_
  unfold Oper.wp execOp
  simp only [ho, resolve, invoke, builtin, Sem.run_bind, Sem.run_pure, Result.andThen_ok, List.map_toArray, List.map_cons, List.map_nil, hd, hs, hr]
  exact hK _ _ (h _ (Lib.below_freeze (p := ⟨g, 0, none⟩) (Below.refl g w) (Nat.le_refl _) _))
end
theorem empty_of_size {s : ByteArray} (h : s.size = 0) : s = { data := #[] } := by
  apply ByteArray.ext
  exact Array.eq_empty_of_size_eq_zero h
set_option maxRecDepth 5000 in
set_option maxHeartbeats 1000000 in
theorem clone_in (s : ByteArray) (w : World) (hs : s.size ≤ 281474976710656) : Calls Tryz.prog 81 #[.string s] w fun e w' => e = .returned (.string s) ∧ Below w.heap.size w w' := by
  by_cases h0 : s.size = 0
  · have e := empty_of_size h0
    subst e
    go_enter Tryz.func81, Tryz.ntmps81
    go_wp2
    go_ret
    exact ⟨rfl, Below.refl _ _⟩
  · have hpos : 0 < s.size := by omega
    have hd : decide ((s.size : Int) = 0) = false := decide_eq_false (by omega)
    have hb : ((s.size : Int) == 0) = false := beq_eq_false_iff_ne.2 (by omega)
    have h1 : (0 : Int) < (s.size : Int) := by omega
    have HS := hide hs
    have HT : Hid (s.size ≤ 9223372036854775807) := by show _ ≤ _; omega
    clear hs
    go_enter Tryz.func81, Tryz.ntmps81
    go_wp2_with (first | (refine wpList_make_bytes rfl _ _ rfl s.size (by rfl) (by rfl) HS.out ?_; intro w1 cur hg1 hc1 hb1 hz1; clear hz1) | (refine wpList_copy_text rfl _ _ rfl w.heap.size s.size s.size s (by rfl) (by rfl) 5 cur (Nat.le_refl _) hg1 hc1 ?_; intro w2 hg2 hb2) | (refine wpList_unsafe_text rfl _ _ rfl w.heap.size s (by rfl) (by rfl) hpos HT.out hg2 ?_; intro w3 hb3))
    go_ret
    exact ⟨rfl, (hb1.trans hb2).trans hb3⟩
theorem clone_any (s : ByteArray) (w : World) (hs : s.size ≤ 281474976710656) : Calls Tryz.prog 46 #[.string s] w fun e w' => e = .returned (.string s) ∧ Below w.heap.size w w' := by
  have HS := hide hs
  clear hs
  go_enter Tryz.func46, Tryz.ntmps46
  go_wp2_with fail
  refine (clone_in s _ HS.out).mono ?_
  rintro e w1 ⟨rfl, h1⟩
  go_wp2
  go_ret
  exact ⟨rfl, h1⟩
end Go.Proofs.YtlkimfmilccanaaGreat.Fr
/-
  The reader: what it has and its fault; stop, take, Err, Rest, Done, Open.
-/
namespace Go.Proofs.YtlkimfmilccanaaGreat.Fr
open Go.RowKit
abbrev RS := ByteArray × Int
def nil8 : ByteArray := { data := #[] }
/-- The program's reader at p. -/
def CR (w : World) (p : Nat) (st : RS) : Prop := Two 207 w p (.string st.1) st.2
def stopS (c : Int) (st : RS) : RS := if st.2 = 0 then (nil8, c) else st
def takeS (n : Int) (st : RS) : RS := if st.2 = 0 then (if (st.1.size : Int) < n then (nil8, 2) else (st.1.extract n.toNat st.1.size, 0)) else st
def takeA (n : Int) (st : RS) : ByteArray := if st.2 = 0 then (if (st.1.size : Int) < n then nil8 else st.1.extract 0 n.toNat) else nil8
/-- A step on what lies at p alone. -/
def Mr (p : Nat) (w w' : World) : Prop := Mw p w (.slice none 0 0) w' (.slice none 0 0)
theorem Mr.refl (p : Nat) (w : World) : Mr p w w := Mw.refl _ _ _
theorem Mr.trans {p : Nat} {w w1 w2 : World} (h : Mr p w w1) (k : Mr p w1 w2) : Mr p w w2 := Mw.trans h k
theorem Mr.of {p : Nat} {w w' : World} (h : Below w.heap.size w w') : Mr p w w' := Mw.of_below h
theorem Mr.block {p : Nat} {w w' : World} (h : Mr p w w') (k : Nat) (hk : k < w.heap.size) (hp : k ≠ p) : w'.heap[k]? = w.heap[k]? := Mw.block h k hk hp (by simp [Value.ownBlock])
theorem Mr.below {p B : Nat} {w w' : World} (h : Mr p w w') (hp : B ≤ p) (hB : B ≤ w.heap.size) : Below B w w' := Mw.below h hp hB (by simp [Value.ownBlock])
theorem Mr.size {p : Nat} {w w' : World} (h : Mr p w w') : w.heap.size ≤ w'.heap.size := Mw.size h
theorem Mr.set {p i : Nat} {w : World} (v : Value) : Mr p w (w.setCell ⟨p, i, none⟩ v) :=
  ⟨rfl, rfl, rfl, by simp, fun k _ hp _ => Below.heap_setCell w ⟨p, i, none⟩ v k hp, fun _ h => by simp [Value.ownBlock] at h⟩
theorem CR.lt {w : World} {p : Nat} {st : RS} (h : CR w p st) : p < w.heap.size := Two.lt h
theorem CR.same {w w' : World} {p : Nat} {st : RS} (h : CR w p st) (e : w'.heap[p]? = w.heap[p]?) : CR w' p st := Two.same h e
theorem CR.below {w w' : World} {p : Nat} {st : RS} (h : CR w p st) (hb : Below w.heap.size w w') : CR w' p st := Two.same h (hb.block p (Two.lt h))
set_option maxHeartbeats 1000000 in
theorem rStop (c : Int) (p : Nat) (st : RS) (w : World) (h : CR w p st) :
    Calls Tryz.prog 173 #[.pointer (some ⟨p, 0, none⟩), .int .i64 c] w fun e w' => e = .returned (.tuple #[]) ∧ CR w' p (stopS c st) ∧ Mr p w w' := by
  obtain ⟨s, f⟩ := st
  have c0 := Two.c0 h
  have c1 := Two.c1 h
  have f0 := Two.fz h 0
  have hS := Two.set0 h (.string nil8)
  have d1 := hS.c1
  have e1 := hS.fz 1
  simp only at c0 c1 d1
  by_cases hf : f = 0
  · subst hf
    have hm : nil8 = { data := #[] } := rfl
    rw [hm] at d1 e1 hS
    go_enter Tryz.func173, Tryz.ntmps173
    go_wp2
    go_end0
    exact ⟨rfl, hS.set1 c, (Mr.set _).trans (Mr.set _)⟩
  · have hq : (f == 0) = false := beq_eq_false_iff_ne.2 hf
    have hs : stopS c (s, f) = (s, f) := by unfold stopS; rw [if_neg hf]
    rw [hs]
    clear hs hS d1 e1 f0
    go_enter Tryz.func173, Tryz.ntmps173
    go_wp2
    go_end0
    exact ⟨rfl, h, Mr.refl _ _⟩
set_option maxHeartbeats 1000000 in
theorem rTake (n : Int) (p : Nat) (st : RS) (w : World) (h : CR w p st) (hn : st.2 ≠ 0 ∨ 0 ≤ n) :
    Calls Tryz.prog 168 #[.pointer (some ⟨p, 0, none⟩), .int .i64 n] w fun e w' => e = .returned (.string (takeA n st)) ∧ CR w' p (takeS n st) ∧ Mr p w w' := by
  obtain ⟨s, f⟩ := st
  have c0 := Two.c0 h
  have c1 := Two.c1 h
  simp only at c0 c1 hn
  have hm : nil8 = { data := #[] } := rfl
  by_cases hf : f = 0
  · subst hf
    have hn0 : 0 ≤ n := hn.resolve_left (fun h => h rfl)
    clear hn
    by_cases hgt : (s.size : Int) < n
    · have e1 : takeA n (s, 0) = nil8 := by unfold takeA; rw [if_pos rfl, if_pos hgt]
      have e2 : takeS n (s, 0) = stopS 2 (s, 0) := by unfold takeS stopS; rw [if_pos rfl, if_pos rfl, if_pos hgt]
      rw [e1, e2]
      clear e1 e2
      go_enter Tryz.func168, Tryz.ntmps168
      go_wp2_with fail
      refine (rStop 2 p (s, 0) _ h).mono ?_
      rintro e w1 ⟨rfl, h1, hM⟩
      have d1 := Two.c1 h1
      have d2 : (stopS 2 (s, 0)).2 = 2 := rfl
      rw [d2] at d1
      clear d2 c1 c0
      go_wp2
      go_ret
      exact ⟨rfl, h1, hM⟩
    · obtain ⟨m, rfl⟩ := Int.eq_ofNat_of_zero_le hn0
      have hms : m ≤ s.size := by omega
      have e1 : takeA (m : Int) (s, 0) = s.extract 0 m := by unfold takeA; rw [if_pos rfl, if_neg hgt]; rfl
      have e2 : takeS (m : Int) (s, 0) = (s.extract m s.size, 0) := by unfold takeS; rw [if_pos rfl, if_neg hgt]; rfl
      rw [e1, e2]
      have f0 := Two.fz h 0
      have hS := Two.set0 h (.string (s.extract m s.size))
      clear e1 e2
      have hi0 : (0 : Int) ≤ (m : Int) := by omega
      have hi1 : (m : Int) ≤ (s.size : Int) := by omega
      go_enter Tryz.func168, Tryz.ntmps168
      go_wp2
      go_ret
      exact ⟨rfl, hS, Mr.set _⟩
  · have hq : (f == 0) = false := beq_eq_false_iff_ne.2 hf
    have hq2 : (f != 0) = true := by simp [hf]
    have e1 : takeA n (s, f) = nil8 := by unfold takeA; rw [if_neg hf]
    have e2 : takeS n (s, f) = (s, f) := by unfold takeS; rw [if_neg hf]
    have e3 : stopS 2 (s, f) = (s, f) := by unfold stopS; rw [if_neg hf]
    have E3 := hide e3
    rw [e1, e2]
    clear e1 e2 e3 hn
    by_cases hgt : (s.size : Int) < n
    · go_enter Tryz.func168, Tryz.ntmps168
      go_wp2_with fail
      refine (rStop 2 p (s, f) _ h).mono ?_
      rintro e w1 ⟨rfl, h1, hM⟩
      rw [E3.out] at h1
      have d1 := Two.c1 h1
      simp only at d1
      go_wp2
      go_ret
      exact ⟨rfl, h1, hM⟩
    · go_enter Tryz.func168, Tryz.ntmps168
      go_wp2
      go_ret
      exact ⟨rfl, h, Mr.refl _ _⟩
theorem rOpen (s : ByteArray) (w : World) : Calls Tryz.prog 130 #[.string s] w fun e w' => e = .returned (.pointer (some ⟨w.heap.size, 0, none⟩)) ∧ CR w' w.heap.size (s, 0) ∧ Below w.heap.size w w' ∧ w'.heap.size = w.heap.size + 1 := by
  go_enter Tryz.func130, Tryz.ntmps130
  go_wp2
  go_ret
  exact ⟨rfl, Two.new w 207 _ 0, (Below.refl _ _).alloc (Nat.le_refl _) _, by simp⟩
end Go.Proofs.YtlkimfmilccanaaGreat.Fr
