import Derived.Test.YtlkimfmilccanaaGreatCurLay
/-
  The writer: put of each kind, New, Len.
-/
namespace Go.Proofs.YtlkimfmilccanaaGreat.Fr
open Go.RowKit
/-- Block p is a struct of two cells. -/
def Two (T : TypeId) (w : World) (p : Nat) (v : Value) (f : Int) : Prop := w.heap[p]? = some (.cells #[v, .int .i64 f] T (0, 0))
section
variable {T : TypeId} {w w' : World} {p : Nat} {v v' : Value} {f : Int}
theorem Two.c0 (h : Two T w p v f) : w.cell? ⟨p, 0, none⟩ = some v := by rw [cell_of_row w p 0 _ T (0, 0) h]; rfl
theorem Two.c1 (h : Two T w p v f) : w.cell? ⟨p, 1, none⟩ = some (.int .i64 f) := by rw [cell_of_row w p 1 _ T (0, 0) h]; rfl
theorem Two.fz (h : Two T w p v f) (i : Nat) : w.frozen? ⟨p, i, none⟩ = false := frozen_of_row w p i _ T h
theorem Two.lt (h : Two T w p v f) : p < w.heap.size := by
  rcases Nat.lt_or_ge p w.heap.size with hl | hl
  · exact hl
  · unfold Two at h; rw [Array.getElem?_eq_none hl] at h; cases h
theorem Two.set0 (h : Two T w p v f) (u : Value) : Two T (w.setCell ⟨p, 0, none⟩ u) p u f := by
  unfold Two; rw [heap_setCell_same w p 0 _ T _ h]; rfl
theorem Two.set1 (h : Two T w p v f) (g : Int) : Two T (w.setCell ⟨p, 1, none⟩ (.int .i64 g)) p v g := by
  unfold Two; rw [heap_setCell_same w p 1 _ T _ h]; rfl
theorem Two.same (h : Two T w p v f) (e : w'.heap[p]? = w.heap[p]?) : Two T w' p v f := by unfold Two; rw [e]; exact h
theorem Two.new (w : World) (T : TypeId) (v : Value) (f : Int) : Two T (w.alloc (.cells #[v, .int .i64 f] T)) w.heap.size v f := heap_alloc_new w _
end
/-- A step on what lies at p and on v: nothing else that was there has turned. -/
structure Mw (p : Nat) (w : World) (v : Value) (w' : World) (v' : Value) : Prop where
  os : w'.os = w.os
  tape : w'.tape = w.tape
  output : w'.output = w.output
  size : w.heap.size ≤ w'.heap.size
  block : ∀ k, k < w.heap.size → k ≠ p → v.ownBlock ≠ some k → w'.heap[k]? = w.heap[k]?
  own : ∀ g, v'.ownBlock = some g → v.ownBlock = some g ∨ w.heap.size ≤ g
theorem Mw.refl (p : Nat) (w : World) (v : Value) : Mw p w v w v := ⟨rfl, rfl, rfl, Nat.le_refl _, fun _ _ _ _ => rfl, fun _ h => .inl h⟩
theorem Mw.trans {p : Nat} {w w1 w2 : World} {v v1 v2 : Value} (h : Mw p w v w1 v1) (k : Mw p w1 v1 w2 v2) : Mw p w v w2 v2 := by
  refine ⟨k.os.trans h.os, k.tape.trans h.tape, k.output.trans h.output, Nat.le_trans h.size k.size, fun i hi hp hn => ?_, fun g hg => ?_⟩
  · refine (k.block i (Nat.lt_of_lt_of_le hi h.size) hp (fun e => ?_)).trans (h.block i hi hp hn)
    rcases h.own i e with h1 | h1
    · exact hn h1
    · omega
  · have := h.size
    rcases k.own g hg with h1 | h1
    · exact h.own g h1
    · exact .inr (by omega)
theorem Mw.below {p B : Nat} {w w' : World} {v v' : Value} (h : Mw p w v w' v') (hp : B ≤ p) (hB : B ≤ w.heap.size) (hv : ∀ k, v.ownBlock = some k → B ≤ k) : Below B w w' :=
  ⟨h.os, h.tape, h.output, h.size, fun k hk => h.block k (by omega) (by omega) (fun e => by have := hv k e; omega)⟩
theorem Mw.of {p : Nat} {w w' : World} {v v' : Value} (h : Mv w v w' v') : Mw p w v w' v' := ⟨h.gr.os, h.gr.tape, h.gr.output, h.gr.size, fun k hk _ hn => h.gr.block k hk (fun e => hn e.symm), h.own⟩
theorem Mw.of_below {p : Nat} {w w' : World} {v : Value} (h : Below w.heap.size w w') : Mw p w v w' v := ⟨h.os, h.tape, h.output, h.size, fun k hk _ _ => h.block k hk, fun _ h => .inl h⟩
/-- The program's writer at p: what it has, or broken. -/
def CW (w : World) (p : Nat) (v : Value) : Option (List UInt8) → Prop
  | some l => Two 156 w p v 0 ∧ Bytes w (p + 1) v l
  | none => Two 156 w p v 3 ∧ v = .slice none 0 0
theorem CW.lt {w : World} {p : Nat} {v : Value} {s : Option (List UInt8)} (h : CW w p v s) : p < w.heap.size := by
  cases s with
  | none => exact h.1.lt
  | some l => exact h.1.lt
theorem CW.own {w : World} {p : Nat} {v : Value} {s : Option (List UInt8)} (h : CW w p v s) : ∀ k, v.ownBlock = some k → p + 1 ≤ k ∧ k < w.heap.size := by
  cases s with
  | none => intro k hk; rw [h.2] at hk; simp [Value.ownBlock] at hk
  | some l => exact fun k hk => ⟨h.2.block k hk, h.2.lt k hk⟩
theorem Bytes.same {w w' : World} {B : Nat} {v : Value} {l : List UInt8} (h : Bytes w B v l) (e : ∀ k, v.ownBlock = some k → w'.heap[k]? = w.heap[k]?) : Bytes w' B v l := by
  refine ⟨h.1, ?_⟩
  rcases h.2 with hn | ⟨g, cap, cur, rfl, hb, hgg, rest⟩
  · exact .inl hn
  · exact .inr ⟨g, cap, cur, rfl, hb, by rw [e g rfl]; exact hgg, rest⟩
theorem Bytes.shape {w : World} {B : Nat} {v : Value} {l : List UInt8} (h : Bytes w B v l) : ∃ ad n c, v = .slice ad n c := by
  rcases h.2 with hn | ⟨g, cap, cur, rfl, _⟩
  · exact ⟨none, 0, 0, hn.1⟩
  · exact ⟨_, _, _, rfl⟩
/-- Untouched blocks: the writer stands. -/
theorem CW.same {w w' : World} {p : Nat} {v : Value} {s : Option (List UInt8)} (h : CW w p v s) (e1 : w'.heap[p]? = w.heap[p]?) (e2 : ∀ k, v.ownBlock = some k → w'.heap[k]? = w.heap[k]?) : CW w' p v s := by
  cases s with
  | none => exact ⟨h.1.same e1, h.2⟩
  | some l => exact ⟨h.1.same e1, h.2.same e2⟩
theorem CW.below {w w' : World} {p : Nat} {v : Value} {s : Option (List UInt8)} (h : CW w p v s) (hb : Below w.heap.size w w') : CW w' p v s :=
  h.same (hb.block p h.lt) (fun k hk => hb.block k (h.own k hk).2)
/-- Behind an append and the store into the field. -/
theorem stored {T : TypeId} {f : Int} {w w1 : World} {p : Nat} {v v1 : Value} {l l' : List UInt8} (h : Two T w p v f) (hB : Bytes w (p + 1) v l) (hM : Mv w v w1 v1) (hB1 : Bytes w1 (p + 1) v1 l') :
    Two T w1 p v f ∧ Two T (w1.setCell ⟨p, 0, none⟩ v1) p v1 f ∧ Bytes (w1.setCell ⟨p, 0, none⟩ v1) (p + 1) v1 l' ∧ Mw p w v (w1.setCell ⟨p, 0, none⟩ v1) v1 := by
  have e : w1.heap[p]? = w.heap[p]? := hM.gr.block p h.lt (fun e => by have := hB.block p e.symm; omega)
  have h1 := h.same e
  refine ⟨h1, h1.set0 v1, ownsRow_setCell_below hB1 (by show p < p + 1; omega) v1, ?_⟩
  refine ⟨hM.gr.os, hM.gr.tape, hM.gr.output, by simpa using hM.gr.size, fun k hk hp hn => ?_, hM.own⟩
  rw [Below.heap_setCell w1 ⟨p, 0, none⟩ v1 k hp]
  exact hM.gr.block k hk (fun e => hn e.symm)
set_option maxHeartbeats 1000000 in
theorem put_32 (X : Int) (x : Nat) (hX : X = (x : Int)) (p : Nat) (v : Value) (s : Option (List UInt8)) (w : World) (h : CW w p v s) (hl : ∀ l, s = some l → l.length + 4 ≤ 140737488355328) :
    Calls Tryz.prog 103 #[.pointer (some ⟨p, 0, none⟩), .int .u32 X] w fun e w' => e = .returned (.tuple #[]) ∧ ∃ v', CW w' p v' (s.map (· ++ nb x 4)) ∧ Mw p w v w' v' := by
  have HX := hide hX
  have HL := hide hl
  clear hl hX
  cases s with
  | none =>
    have c1 := h.1.c1
    go_enter Tryz.func103, Tryz.ntmps103
    go_wp2
    go_end0
    exact ⟨rfl, v, h, Mw.refl _ _ _⟩
  | some l =>
    have c1 := h.1.c1
    have c0 := h.1.c0
    go_enter Tryz.func103, Tryz.ntmps103
    go_wp2_with fail
    refine (lay_32 X x HX.out v l (p + 1) _ h.2 (by have := h.1.lt; omega) (HL.out l rfl)).mono ?_
    rintro e w1 ⟨v1, rfl, hB1, hM⟩
    obtain ⟨ad, n1, c1', rfl⟩ := hB1.shape
    obtain ⟨t1, t2, t3, t4⟩ := stored h.1 h.2 hM hB1
    have d0 := t1.c0
    have df := t1.fz 0
    go_wp2
    go_end0
    exact ⟨rfl, _, ⟨t2, t3⟩, t4⟩
theorem wU32 (X : Int) (x : Nat) (hX : X = (x : Int)) (p : Nat) (v : Value) (s : Option (List UInt8)) (w : World) (h : CW w p v s) (hl : ∀ l, s = some l → l.length + 4 ≤ 140737488355328) :
    Calls Tryz.prog 73 #[.pointer (some ⟨p, 0, none⟩), .int .u32 X] w fun e w' => e = .returned (.tuple #[]) ∧ ∃ v', CW w' p v' (s.map (· ++ nb x 4)) ∧ Mw p w v w' v' := by
  have HL := hide hl
  have HX := hide hX
  clear hl hX
  go_enter Tryz.func73, Tryz.ntmps73
  go_wp2_with fail
  refine (put_32 X x HX.out p v s _ h HL.out).mono ?_
  rintro e w1 ⟨rfl, h1⟩
  go_wp2
  go_end0
  exact ⟨rfl, h1⟩
set_option maxHeartbeats 1000000 in
theorem put_64 (X : Int) (x : Nat) (hX : X = (x : Int)) (p : Nat) (v : Value) (s : Option (List UInt8)) (w : World) (h : CW w p v s) (hl : ∀ l, s = some l → l.length + 8 ≤ 140737488355328) :
    Calls Tryz.prog 102 #[.pointer (some ⟨p, 0, none⟩), .int .u64 X] w fun e w' => e = .returned (.tuple #[]) ∧ ∃ v', CW w' p v' (s.map (· ++ nb x 8)) ∧ Mw p w v w' v' := by
  have HX := hide hX
  have HL := hide hl
  clear hl hX
  cases s with
  | none =>
    have c1 := h.1.c1
    go_enter Tryz.func102, Tryz.ntmps102
    go_wp2
    go_end0
    exact ⟨rfl, v, h, Mw.refl _ _ _⟩
  | some l =>
    have c1 := h.1.c1
    have c0 := h.1.c0
    go_enter Tryz.func102, Tryz.ntmps102
    go_wp2_with fail
    refine (lay_64 X x HX.out v l (p + 1) _ h.2 (by have := h.1.lt; omega) (HL.out l rfl)).mono ?_
    rintro e w1 ⟨v1, rfl, hB1, hM⟩
    obtain ⟨ad, n1, c1', rfl⟩ := hB1.shape
    obtain ⟨t1, t2, t3, t4⟩ := stored h.1 h.2 hM hB1
    have d0 := t1.c0
    have df := t1.fz 0
    go_wp2
    go_end0
    exact ⟨rfl, _, ⟨t2, t3⟩, t4⟩
end Go.Proofs.YtlkimfmilccanaaGreat.Fr
/-
  The writer: I64, Raw, Text, Len, New, stop.
-/
namespace Go.Proofs.YtlkimfmilccanaaGreat.Fr
open Go.RowKit
theorem str_len (r : ByteArray) : r.data.toList.length = r.size := by rw [Array.length_toList]; rfl
theorem wpList_append_src {ops : Array Oper} {rest : List Oper} {o : Oper} {a : Act} {w : World} {Q : Exit → Act → World → Prop} (hgd : o.guard = none) (sl x : Operand) (tx : TypeId)
    (ho : o.op = .call { callee := .builtin .append, args := #[sl, x], argTypes := #[42, tx] }) (B : Nat) (v : Value) (l : List UInt8) (hs : a.eval sl = v) (hown : Bytes w B v l) (X : Value) (news : List UInt8) (hx : a.eval x = X) (hsrc : Src Tryz.prog 1 tx X news.length (news.map byteV) w)
    (hlen : l.length + news.length ≤ 140737488355328) (hB : B ≤ w.heap.size)
    (h : ∀ ad n c w', Bytes w' B (.slice ad n c) (l ++ news) → Mv w v w' (.slice ad n c) → wpList Tryz.prog ops Q rest (a.put o.dst (.slice ad n c)) w') : wpList Tryz.prog ops Q (o :: rest) a w := by
  obtain ⟨v', w', hr, h1, h2⟩ := run_append_bytes w B o.type tx v l news hown X hsrc hlen hB
  obtain ⟨ad, n, c, rfl⟩ := h1.shape
  refine wpList_plain hgd fun K hK => ?_
  unfold Oper.wp execOp
  simp only [ho, resolve, invoke, builtin, Sem.run_bind, Sem.run_pure, Result.andThen_ok, List.map_toArray, List.map_cons, List.map_nil, hs, hx, hr]
  exact hK _ _ (h _ _ _ _ h1 h2)
theorem src_text (s : ByteArray) (w : World) : Src Tryz.prog 1 9 (.string s) s.data.toList.length (s.data.toList.map byteV) w := by
  rw [str_len]; exact Src.ofString w Tryz.underlying9 s
set_option maxHeartbeats 1000000 in
theorem wI64 (X : Int) (x : Nat) (hX : IntKind.u64.wrap X = (x : Int)) (p : Nat) (v : Value) (s : Option (List UInt8)) (w : World) (h : CW w p v s) (hl : ∀ l, s = some l → l.length + 8 ≤ 140737488355328) :
    Calls Tryz.prog 71 #[.pointer (some ⟨p, 0, none⟩), .int .i64 X] w fun e w' => e = .returned (.tuple #[]) ∧ ∃ v', CW w' p v' (s.map (· ++ nb x 8)) ∧ Mw p w v w' v' := by
  have HL := hide hl
  obtain ⟨Z, hZ⟩ : ∃ Z : Int, (x : Int) = Z := ⟨_, rfl⟩
  have hc : ∀ w : World, (convert 2 158 (.int .i64 X)).run Tryz.prog w = .ok (.int .u64 Z) w := fun w => by
    have h := run_convert_int (P := Tryz.prog) (w := w) 2 158 .i64 X (by kernel_rfl) (by kernel_rfl)
    rw [show Tryz.prog.intKind 158 = .u64 by kernel_rfl, hX, hZ] at h
    exact h
  have HC := hide hc
  have HZ := hide hZ.symm
  clear hl hX hZ hc
  go_enter Tryz.func71, Tryz.ntmps71
  go_wp2_with (first | (refine wpList_conv rfl _ _ _ rfl .i64 .u64 X Z (by rfl) (HC.out _) ?_) | fail)
  refine (put_64 Z x HZ.out p v s _ h HL.out).mono ?_
  rintro e w1 ⟨rfl, h1⟩
  go_wp2
  go_end0
  exact ⟨rfl, h1⟩
set_option maxHeartbeats 1000000 in
theorem wRaw (t : ByteArray) (p : Nat) (v : Value) (s : Option (List UInt8)) (w : World) (h : CW w p v s) (hl : ∀ l, s = some l → l.length + t.size ≤ 140737488355328) :
    Calls Tryz.prog 74 #[.pointer (some ⟨p, 0, none⟩), .string t] w fun e w' => e = .returned (.tuple #[]) ∧ ∃ v', CW w' p v' (s.map (· ++ t.data.toList)) ∧ Mw p w v w' v' := by
  have HL := hide hl
  clear hl
  cases s with
  | none =>
    have c1 := h.1.c1
    go_enter Tryz.func74, Tryz.ntmps74
    go_wp2
    go_end0
    exact ⟨rfl, v, h, Mw.refl _ _ _⟩
  | some l =>
    have c1 := h.1.c1
    have c0 := h.1.c0
    have hp : p + 1 ≤ w.heap.size := by have := h.1.lt; omega
    have HP := hide hp
    clear hp
    have HLL : Hid (l.length + t.data.toList.length ≤ 140737488355328) := by
      show _ ≤ _
      rw [str_len]; exact HL.out l rfl
    go_enter Tryz.func74, Tryz.ntmps74
    go_wp2_with (at_builtin; refine wpList_append_src rfl _ _ 9 rfl (p + 1) v l (by rfl) h.2 (.string t) t.data.toList (by rfl) (src_text t _) HLL.out HP.out ?_; intro ad n1 c1' w1 hB1 hM; obtain ⟨t1, t2, t3, t4⟩ := stored h.1 h.2 hM hB1; have d0 := t1.c0; have df := t1.fz 0)
    go_end0
    exact ⟨rfl, _, ⟨t2, t3⟩, t4⟩
-- left out in this seat: wLen
set_option maxHeartbeats 1000000 in
theorem wNew (w : World) : Calls Tryz.prog 70 #[] w fun e w' => e = .returned (.pointer (some ⟨w.heap.size, 0, none⟩)) ∧ CW w' w.heap.size (.slice none 0 0) (some []) ∧ Below w.heap.size w w' ∧ w'.heap.size = w.heap.size + 1 := by
  go_enter Tryz.func70, Tryz.ntmps70
  go_wp2
  go_ret
  exact ⟨rfl, ⟨Two.new w 156 _ 0, Bytes.nil _ _⟩, (Below.refl _ _).alloc (Nat.le_refl _) _, by simp⟩
end Go.Proofs.YtlkimfmilccanaaGreat.Fr
/-
  The writer: Out.
-/
namespace Go.Proofs.YtlkimfmilccanaaGreat.Fr
open Go.RowKit
theorem Bytes.cells {w : World} {B g n cap : Nat} {l : List UInt8} (h : Bytes w B (.slice (some ⟨g, 0, none⟩) n cap) l) (i : Nat) (hi : i < l.length) : w.cell? ⟨g, i, none⟩ = some (byteV (byteAt l i)) := by
  rcases h.2 with ⟨h1, _⟩ | ⟨g', cap', cur, h1, hb, hg, hnc, hcm, hcs, htake⟩
  · cases h1
  · simp only [Value.slice.injEq, Option.some.injEq, Addr.mk.injEq, and_true] at h1
    obtain ⟨rfl, rfl, rfl⟩ := h1
    rw [cell_of_row w g i cur 5 (0, 0) hg]
    rw [Nat.mul_one] at htake
    have e : (cur.toList.take l.length)[i]? = (l.map byteV)[i]? := by rw [htake]
    rw [List.getElem?_take_of_lt hi, List.getElem?_map, List.getElem?_eq_getElem hi, Array.getElem?_toList] at e
    rw [e]
    unfold byteAt
    rw [List.getD_eq_getElem?_getD, List.getElem?_eq_getElem hi]
    rfl
theorem conv_nil (w : World) : (convert 42 9 (.slice none 0 0)).run Tryz.prog w = .ok (.string ⟨#[]⟩) w := by
  have hd : (convert 42 9 (.slice none 0 0)).run Tryz.prog w = .ok (.string ⟨#[]⟩) w := by
    simp [convert, run_underlying Tryz.underlying42, run_underlying Tryz.underlying9, run_underlying Tryz.underlying5, Conv.bytesToString, loadCells]
    try rfl
  exact hd
theorem Bytes.conv {w : World} {B : Nat} {v : Value} {l : List UInt8} (h : Bytes w B v l) : (convert 42 9 v).run Tryz.prog w = .ok (.string ⟨l.toArray⟩) w := by
  rcases h.2 with ⟨rfl, hl⟩ | ⟨g, cap, cur, rfl, hb, hg, _⟩
  · have e : l = [] := List.length_eq_zero_iff.1 hl
    subst e
    exact conv_nil w
  · have hr := run_convert_bytes_arg w 42 5 Tryz.underlying42 Tryz.underlying5 g 0 l.length cap (l.map fun c => (c.toNat : Int)) (by simp) (fun i hi => by
      rw [Nat.zero_add, h.cells i hi]
      unfold byteAt byteV
      rw [List.getD_eq_getElem?_getD, List.getElem?_eq_getElem hi]
      simp [hi]) 9 Tryz.underlying9
    have e : strOfNums (l.map fun c => (c.toNat : Int)) = ⟨l.toArray⟩ := by
      simp only [strOfNums, List.map_map, Function.comp_def, Int.toNat_natCast]
      simp
    rw [e] at hr
    exact hr
theorem below_drewN {B : Nat} {w w' : World} (h : Below B w w') (n : Nat) : Below B w (w'.drewN n) := ⟨h.os, h.tape, h.output, h.size, h.block⟩
def outS (s : Option (List UInt8)) : ByteArray := ⟨(s.getD []).toArray⟩
def outE (s : Option (List UInt8)) : Int := if s.isSome then 0 else 3
set_option maxHeartbeats 1000000 in
theorem wOut (p : Nat) (v : Value) (s : Option (List UInt8)) (w : World) (h : CW w p v s) :
    Calls Tryz.prog 72 #[.pointer (some ⟨p, 0, none⟩)] w fun e w' => e = .returned (.tuple #[.string (outS s), .int .i64 (outE s)]) ∧ Below w.heap.size w w' := by
  have hT : Two 156 w p v (outE s) := by cases s with | none => exact h.1 | some l => exact h.1
  have hc : ∀ m, (convert 42 9 v).run Tryz.prog (w.drewN m) = .ok (.string (outS s)) (w.drewN m) := fun m => by
    cases s with
    | none => rw [h.2]; exact conv_nil _
    | some l => exact Bytes.conv (w := w.drewN m) h.2
  have c0 := hT.c0
  have c1 := hT.c1
  generalize outS s = S at hc ⊢
  generalize outE s = E at c1 ⊢
  clear hT h
  go_enter Tryz.func72, Tryz.ntmps72
  go_wp2
  go_quiet (fail)
  go_wp2
  go_ret2
  exact ⟨rfl, below_drewN (Below.refl _ _) nq⟩
end Go.Proofs.YtlkimfmilccanaaGreat.Fr
