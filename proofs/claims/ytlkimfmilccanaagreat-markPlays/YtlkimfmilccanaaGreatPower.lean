import Derived.Test.YtlkimfmilccanaaGreatFrame
import Derived.Lib.UnsafeStr
import Derived.Deep.OwnRows
/-
  strings.Clone: the same text.
-/
namespace Go.Proofs.YtlkimfmilccanaaGreat
open Go.RowKit
theorem str_len (r : ByteArray) : r.data.toList.length = r.size := by rw [Array.length_toList]; rfl
section
variable {ops : Array Oper} {rest : List Oper} {o : Oper} {a : Act} {w : World} {Q : Exit → Act → World → Prop}
theorem wpList_make_bytes (hgd : o.guard = none) (l c : Operand) (ho : o.op = .makeSlice 42 l c) (n : Nat) (hl : a.eval l = .int .i64 (n : Int)) (hc : a.eval c = .int .i64 (n : Int)) (hn : n ≤ 281474976710656)
    (h : ∀ w1 cur, w1.heap[w.heap.size]? = some (.cells cur 5 (0, 0)) → cur.size = n → Below w.heap.size w w1 → w1.heap.size = w.heap.size + 1 → wpList Tryz.prog ops Q rest (a.put o.dst (.slice (some ⟨w.heap.size, 0, none⟩) n n)) w1) : wpList Tryz.prog ops Q (o :: rest) a w := by
  have hr := run_make_row' (P := Tryz.prog) 42 5 (.int .u8 0) 1 Tryz.underlying42 info5 rfl .i64 .i64 n (by omega) (by omega) w
  refine wpList_plain hgd fun K hK => ?_
  unfold Oper.wp execOp
  simp only [ho, hl, hc, hr, Sem.run_bind, Sem.run_pure, Result.andThen_ok]
  refine hK _ _ (h _ _ (heap_alloc_new w _) ?_ ((Below.refl _ _).alloc (Nat.le_refl _) _) (by simp))
  simp [madeCells]
theorem size5 (w : World) : (sizeOf 5).run Tryz.prog w = .ok 1 w := by
  have h : (Tryz.prog.info? 5).map (·.size) = some 1 := by kernel_rfl
  cases hq : Tryz.prog.info? 5 with
  | none => simp [hq] at h
  | some i => simp [hq] at h; simp [sizeOf, typeInfo, hq, h]
/-- copy(b[..n], s), b the head of block g. -/
theorem run_copy_text (w : World) (ty : TypeId) (g o dLen dCap : Nat) (r : ByteArray) (t : TypeId) (cur : Array Value) (hle : r.size ≤ dLen) (hg : w.heap[g]? = some (.cells cur t (0, 0))) (hfit : o + r.size ≤ cur.size) :
    (Builtin.copy_ #[42, 9] ty #[.slice (some ⟨g, o, none⟩) dLen dCap, .string r]).run Tryz.prog w =
      .ok (goInt r.size) (w.setRow g (cur.toList.take o ++ r.data.toList.map byteV ++ cur.toList.drop (o + (r.data.toList.map byteV).length)).toArray) := by
  have hst := run_storeCells_at Tryz.prog g o t (r.data.toList.map byteV) 0 cur w hg (by rw [List.length_map, str_len]; omega) (fun v hv => by
    obtain ⟨i, _, rfl⟩ := List.mem_map.1 hv
    rfl)
  rw [Nat.add_zero] at hst
  have hq := size5 w
  have hm : Nat.min r.size dLen = r.size := Nat.min_eq_left hle
  have ht : List.take r.size (List.map (fun b : UInt8 => Value.int IntKind.u8 (b.toNat : Int)) r.data.toList) = r.data.toList.map byteV := by
    rw [List.take_of_length_le (by rw [List.length_map, str_len]; exact Nat.le_refl _)]; rfl
  simp [Builtin.copy_, run_underlying Tryz.underlying42, Builtin.lenOf, Builtin.firstCells, hq, hm]
  rw [ht, hst]
  simp [Result.andThen]
theorem wpList_copy_text (hgd : o.guard = none) (d s : Operand) (ho : o.op = .call { callee := .builtin .copy, args := #[d, s], argTypes := #[42, 9] }) (g dLen dCap : Nat) (r : ByteArray) (hd : a.eval d = .slice (some ⟨g, 0, none⟩) dLen dCap) (hs : a.eval s = .string r)
    (t : TypeId) (cur : Array Value) (hle : r.size ≤ dLen) (hg : w.heap[g]? = some (.cells cur t (0, 0))) (hfit : cur.size = r.size)
    (h : ∀ w1, w1.heap[g]? = some (.cells (r.data.toList.map byteV).toArray t (0, 0)) → Below g w w1 → wpList Tryz.prog ops Q rest (a.put o.dst (.int .i64 (r.size : Int))) w1) : wpList Tryz.prog ops Q (o :: rest) a w := by
  have hr := run_copy_text w o.type g 0 dLen dCap r t cur hle hg (by omega)
  have e : (cur.toList.take 0 ++ r.data.toList.map byteV ++ cur.toList.drop (0 + (r.data.toList.map byteV).length)).toArray = (r.data.toList.map byteV).toArray := by
    rw [List.take_zero, List.nil_append, List.drop_of_length_le (by simp; omega), List.append_nil]
  rw [e] at hr
  refine wpList_plain hgd fun K hK => ?_
  unfold Oper.wp execOp
  simp only [ho, resolve, invoke, builtin, Sem.run_bind, Sem.run_pure, Result.andThen_ok, List.map_toArray, List.map_cons, List.map_nil, hd, hs, hr]
  exact hK _ _ (h _ (setRow_heap w g cur _ t _ hg) ⟨rfl, rfl, rfl, by simp, fun k hk => setRow_other w g k _ (by omega)⟩)
theorem wpList_unsafe_text (hgd : o.guard = none) (d s : Operand) (ho : o.op = .call { callee := .builtin .unsafeString, args := #[d, s], argTypes := #[173, 3] }) (g : Nat) (r : ByteArray) (hd : a.eval d = .pointer (some ⟨g, 0, none⟩)) (hs : a.eval s = .int .i64 (r.size : Int))
    (hr0 : 0 < r.size) (hr1 : r.size ≤ 9223372036854775807) (hg : w.heap[g]? = some (.cells (r.data.toList.map byteV).toArray 5 (0, 0)))
    (h : ∀ w1, Below g w w1 → wpList Tryz.prog ops Q rest (a.put o.dst (.string r)) w1) : wpList Tryz.prog ops Q (o :: rest) a w := by
  have hsh : w.shape? g = some (5, r.size) := by simp [World.shape?, hg]
  have hr := Lib.run_unsafeString_row (P := Tryz.prog) w 173 3 o.type 5 Tryz.underlying173 (by kernel_rfl) g r.size hsh r.data.toList (by rw [← List.length_pos_iff, str_len]; exact hr0) (by rw [str_len]; exact Nat.le_refl _) (by rw [str_len]; exact hr1) (fun j x hx => by
    have hadd : (⟨g, 0, none⟩ : Addr).add j = ⟨g, j, none⟩ := by unfold Addr.add; split <;> simp_all
    rw [hadd, cell_of_row w g j _ 5 (0, 0) hg, List.getElem?_toArray, List.getElem?_map, hx]; rfl)
  rw [str_len] at hr
  refine wpList_plain hgd fun K hK => ?_
  unfold Oper.wp execOp
  simp only [ho, resolve, invoke, builtin, Sem.run_bind, Sem.run_pure, Result.andThen_ok, List.map_toArray, List.map_cons, List.map_nil, hd, hs, hr]
  exact hK _ _ (h _ (Lib.below_freeze (p := ⟨g, 0, none⟩) (Below.refl g w) (Nat.le_refl _) _))
end
theorem empty_of_size {s : ByteArray} (h : s.size = 0) : s = { data := #[] } := by
  apply ByteArray.ext
  exact Array.eq_empty_of_size_eq_zero h
set_option maxRecDepth 5000 in
set_option maxHeartbeats 1000000 in
theorem clone_in (s : ByteArray) (w : World) (hs : s.size ≤ 281474976710656) : Calls Tryz.prog 81 #[.string s] w fun e w' => e = .returned (.string s) ∧ Below w.heap.size w w' := by
  by_cases h0 : s.size = 0
  · have e := empty_of_size h0
    subst e
    go_enter Tryz.func81, Tryz.ntmps81
    go_wp2
    go_ret
    exact ⟨rfl, Below.refl _ _⟩
  · have hpos : 0 < s.size := by omega
    have hd : decide ((s.size : Int) = 0) = false := decide_eq_false (by omega)
    have hb : ((s.size : Int) == 0) = false := beq_eq_false_iff_ne.2 (by omega)
    have h1 : (0 : Int) < (s.size : Int) := by omega
    have HS := hide hs
    have HT : Hid (s.size ≤ 9223372036854775807) := by show _ ≤ _; omega
    clear hs
    go_enter Tryz.func81, Tryz.ntmps81
    go_wp2_with (first | (refine wpList_make_bytes rfl _ _ rfl s.size (by rfl) (by rfl) HS.out ?_; intro w1 cur hg1 hc1 hb1 hz1; clear hz1) | (refine wpList_copy_text rfl _ _ rfl w.heap.size s.size s.size s (by rfl) (by rfl) 5 cur (Nat.le_refl _) hg1 hc1 ?_; intro w2 hg2 hb2) | (refine wpList_unsafe_text rfl _ _ rfl w.heap.size s (by rfl) (by rfl) hpos HT.out hg2 ?_; intro w3 hb3))
    go_ret
    exact ⟨rfl, (hb1.trans hb2).trans hb3⟩
theorem clone_any (s : ByteArray) (w : World) (hs : s.size ≤ 281474976710656) : Calls Tryz.prog 46 #[.string s] w fun e w' => e = .returned (.string s) ∧ Below w.heap.size w w' := by
  have HS := hide hs
  clear hs
  go_enter Tryz.func46, Tryz.ntmps46
  go_wp2_with fail
  refine (clone_in s _ HS.out).mono ?_
  rintro e w1 ⟨rfl, h1⟩
  go_wp2
  go_ret
  exact ⟨rfl, h1⟩
end Go.Proofs.YtlkimfmilccanaaGreat
/-
  Names; the power's count.
-/
namespace Go.Proofs.YtlkimfmilccanaaGreat
open Go.RowKit Go.Maps
theorem str_get (s : ByteArray) (i : Nat) (h : i < s.size) : s[i]? = some (byteAt s.data.toList i) := by
  have hl : i < s.data.toList.length := by rw [str_len]; exact h
  rw [getElem?_pos s i h]
  unfold byteAt
  rw [List.getD_eq_getElem?_getD, List.getElem?_eq_getElem hl]
  rfl
theorem run_index_str (w : World) (s : ByteArray) (k : IntKind) (i : Nat) (c : UInt8) (h : s[i]? = some c) : (Instr.index 9 (.string s) (.int k (i : Int))).run Tryz.prog w = .ok (.int .u8 (c.toNat : Int)) w := by
  simp [Instr.index, run_underlying Tryz.underlying9, asIntOf, h, go_sem]
def chOk (b : UInt8) : Bool := decide (33 ≤ b.toNat) && decide (b.toNat ≤ 126)
theorem all_at (l : Key) : l.all chOk = true ↔ ∀ i, i < l.length → chOk (byteAt l i) = true := by
  rw [List.all_eq_true]
  constructor
  · intro h i hi
    have : byteAt l i = l[i] := by unfold byteAt; rw [List.getD_eq_getElem?_getD, List.getElem?_eq_getElem hi]; rfl
    rw [this]
    exact h _ (List.getElem_mem hi)
  · intro h x hx
    obtain ⟨i, hi, rfl⟩ := List.getElem_of_mem hx
    have : byteAt l i = l[i] := by unfold byteAt; rw [List.getD_eq_getElem?_getD, List.getElem?_eq_getElem hi]; rfl
    rw [← this]
    exact h i hi
theorem nameOk_eq (l : Key) : nameOk l = (decide (1 ≤ l.length) && decide (l.length ≤ 32) && l.all chOk) := rfl
set_option maxHeartbeats 800000 in
theorem isName_any (s : ByteArray) (w : World) : Calls Tryz.prog 79 #[.string s] w fun e w' => e = .returned (.bool (nameOk s.data.toList)) ∧ w' = w := by
  rw [nameOk_eq, str_len]
  by_cases h1 : s.size < 1
  · have hd : decide ((s.size : Int) < 1) = true := decide_eq_true (by omega)
    have hn : (decide (1 ≤ s.size) && decide (s.size ≤ 32) && s.data.toList.all chOk) = false := by
      rw [decide_eq_false (by omega : ¬ 1 ≤ s.size)]; rfl
    rw [hn]
    go_enter Tryz.func79, Tryz.ntmps79
    go_wp2
    go_ret
    exact ⟨rfl, rfl⟩
  · have hd : decide ((s.size : Int) < 1) = false := decide_eq_false (by omega)
    by_cases h2 : 32 < s.size
    · have hd2 : decide ((32 : Int) < (s.size : Int)) = true := decide_eq_true (by omega)
      have hn : (decide (1 ≤ s.size) && decide (s.size ≤ 32) && s.data.toList.all chOk) = false := by
        rw [decide_eq_false (by omega : ¬ s.size ≤ 32), Bool.and_false]; rfl
      rw [hn]
      go_enter Tryz.func79, Tryz.ntmps79
      go_wp2
      go_ret
      exact ⟨rfl, rfl⟩
    · have hd2 : decide ((32 : Int) < (s.size : Int)) = false := decide_eq_false (by omega)
      have hn : (decide (1 ≤ s.size) && decide (s.size ≤ 32) && s.data.toList.all chOk) = s.data.toList.all chOk := by
        rw [decide_eq_true (by omega : 1 ≤ s.size), decide_eq_true (by omega : s.size ≤ 32)]; rfl
      rw [hn]
      obtain ⟨n, hsn⟩ : ∃ n, s.size = n := ⟨_, rfl⟩
      have hn32 : n ≤ 32 := by omega
      have HL : Hid (s.data.toList.length = n) := by show _ = _; rw [str_len, hsn]
      have HG : Hid (∀ i, i < n → s[i]? = some (byteAt s.data.toList i)) := fun i hi => str_get s i (by omega)
      clear hn h1 h2
      rw [hsn] at hd hd2
      go_enter Tryz.func79, Tryz.ntmps79
      go_wp2
      go_loopw [14] (fun i wr => ∃ k : Nat, k ≤ n ∧ i = .int .i64 (k : Int) ∧ (∀ j, j < k → chOk (byteAt s.data.toList j) = true) ∧ wr = w) (fun i _ => n - (intOf i).toNat)
      case atStart => exact ⟨0, by omega, rfl, fun j hj => absurd hj (by omega), rfl⟩
      case round =>
        obtain ⟨k, hk, rfl, hall, rfl⟩ := hrel
        have HA := hide hall
        clear hall
        by_cases hlt : k < n
        · have hx : ∀ w' : World, (Instr.index 9 (.string s) (.int .i64 (k : Int))).run Tryz.prog w' = .ok (.int .u8 ((byteAt s.data.toList k).toNat : Int)) w' := fun w' => run_index_str w' s .i64 k _ (HG.out k hlt)
          have hd3 : decide ((k : Int) < (n : Int)) = true := decide_eq_true (by omega)
          obtain ⟨c, hc⟩ : ∃ c, byteAt s.data.toList k = c := ⟨_, rfl⟩
          rw [hc] at hx
          have HC := hide hc
          clear hc
          by_cases b1 : c.toNat < 33
          · have e1 : decide ((c.toNat : Int) < 33) = true := decide_eq_true (by omega)
            have HB : Hid (s.data.toList.all chOk = false) := by
              show _ = false
              rw [← Bool.not_eq_true, all_at]
              intro h
              have := h k (by rw [HL.out]; exact hlt)
              rw [HC.out] at this
              simp [chOk] at this
              omega
            go_wp2
            go_ret
            exact ⟨by rw [HB.out]; rfl, rfl⟩
          · have e1 : decide ((c.toNat : Int) < 33) = false := decide_eq_false (by omega)
            by_cases b2 : 126 < c.toNat
            · have e2 : decide ((126 : Int) < (c.toNat : Int)) = true := decide_eq_true (by omega)
              have HB : Hid (s.data.toList.all chOk = false) := by
                show _ = false
                rw [← Bool.not_eq_true, all_at]
                intro h
                have := h k (by rw [HL.out]; exact hlt)
                rw [HC.out] at this
                simp [chOk] at this
                omega
              go_wp2
              go_ret
              exact ⟨by rw [HB.out]; rfl, rfl⟩
            · have e2 : decide ((126 : Int) < (c.toNat : Int)) = false := decide_eq_false (by omega)
              have HB : Hid (chOk c = true) := by show _ = true; simp [chOk]; omega
              clear b1 b2
              go_wp2
              go_roundw
              case rel =>
                refine ⟨k + 1, by omega, by go_num, fun j hj => ?_, by first | rfl | trivial⟩
                by_cases e : j = k
                · rw [e, HC.out]; exact HB.out
                · exact HA.out j (by omega)
              case measure => simp [intOf]; omega
        · have hkn : k = n := by omega
          subst hkn
          have hd3 : decide ((k : Int) < (k : Int)) = false := decide_eq_false (by omega)
          have HB : Hid (s.data.toList.all chOk = true) := by
            show _ = true
            rw [all_at]
            intro i hi
            rw [HL.out] at hi
            exact HA.out i hi
          go_wp2
          go_ret
          exact ⟨by rw [HB.out]; rfl, rfl⟩
end Go.Proofs.YtlkimfmilccanaaGreat
/-
  The power: count, Arm, Fall, Off; New; find.
-/
namespace Go.Proofs.YtlkimfmilccanaaGreat
open Go.RowKit Go.Maps
theorem AP.Ok.count {P : AP} (h : P.Ok) (x : Int) : (P.count x).2.Ok := by
  have h1 := h.a0; have h2 := h.a1; have h3 := h.f0; have h4 := h.f1; have h5 := h.w0; have h6 := h.w1
  have h7 : 0 ≤ P.fell ∧ P.fell < 9223372036854775808 := by unfold AP.fell; split <;> omega
  unfold AP.count
  split
  · exact ⟨h1, h2, by simp, by simp, h5, h6⟩
  · split
    · exact ⟨by simp only; omega, by simp only; omega, h7.1, h7.2, h5, h6⟩
    · exact ⟨h1, h2, h7.1, h7.2, h5, h6⟩
/-- The struct of a disk. -/
def DCells (w : World) (p m : Nat) (cap : Int) (P : AP) : Prop := w.heap[p]? = some (.cells #[.int .i64 cap, .map (some m), .bool P.off, .bool P.opn, .int .i64 P.arm, .int .i64 P.what, .int .i64 P.fall] 86 (0, 0))
section
variable {w : World} {p m : Nat} {cap : Int} {P : AP}
theorem DCells.off (h : DCells w p m cap P) (x : Bool) : DCells (w.setCell ⟨p, 2, none⟩ (.bool x)) p m cap { P with off := x } := by
  unfold DCells; rw [heap_setCell_same w p 2 _ _ _ h]; rfl
theorem DCells.opn (h : DCells w p m cap P) (x : Bool) : DCells (w.setCell ⟨p, 3, none⟩ (.bool x)) p m cap { P with opn := x } := by
  unfold DCells; rw [heap_setCell_same w p 3 _ _ _ h]; rfl
theorem DCells.arm (h : DCells w p m cap P) (x : Int) : DCells (w.setCell ⟨p, 4, none⟩ (.int .i64 x)) p m cap { P with arm := x } := by
  unfold DCells; rw [heap_setCell_same w p 4 _ _ _ h]; rfl
theorem DCells.what (h : DCells w p m cap P) (x : Int) : DCells (w.setCell ⟨p, 5, none⟩ (.int .i64 x)) p m cap { P with what := x } := by
  unfold DCells; rw [heap_setCell_same w p 5 _ _ _ h]; rfl
theorem DCells.fall (h : DCells w p m cap P) (x : Int) : DCells (w.setCell ⟨p, 6, none⟩ (.int .i64 x)) p m cap { P with fall := x } := by
  unfold DCells; rw [heap_setCell_same w p 6 _ _ _ h]; rfl
end
theorem tset {w w1 : World} {p : Nat} (h : Turn (fun b => b = p) w w1) (i : Nat) (v : Value) : Turn (fun b => b = p) w (w1.setCell ⟨p, i, none⟩ v) :=
  h.trans (Turn.setCell w1 ⟨p, i, none⟩ v) (fun _ hb => .inl hb)
set_option maxRecDepth 5000 in
set_option maxHeartbeats 800000 in
theorem count_any (p m : Nat) (con : Key → FC) (A : AD) (w : World) (h : DiskAt w p m con A) (x : Int) :
    Calls Tryz.prog 44 #[.pointer (some ⟨p, 2, none⟩), .int .i64 x] w fun e w' => e = .returned (.int .i64 (A.pow.count x).1) ∧ DiskAt w' p m con { A with pow := (A.pow.count x).2 } ∧ Turn (fun b => b = p) w w' := by
  have HH := hide h
  have HO := hide h.ok.pow
  have HD : Hid (DCells w p m A.cap A.pow) := h.cells
  have c4 := h.c4
  have c5 := h.c5
  have c6 := h.c6
  have c2 := h.c2
  have c3 := h.c3
  have f2 := h.fz 2
  have f3 := h.fz 3
  have f4 := h.fz 4
  have f6 := h.fz 6
  have T0 := Turn.refl (fun b => b = p) w
  clear h
  obtain ⟨cap, fs, P⟩ := A
  obtain ⟨off, opn, arm, what, fall⟩ := P
  simp only at c2 c3 c4 c5 c6 HD HO ⊢
  have q1 := HO.out.a0; have q2 := HO.out.a1; have q3 := HO.out.f0; have q4 := HO.out.f1
  simp only at q1 q2 q3 q4
  by_cases hf1 : fall = 1
  · subst hf1
    have e : AP.count ⟨off, opn, arm, what, 1⟩ x = (9, ⟨true, true, arm, what, 0⟩) := rfl
    rw [e]
    go_enter Tryz.func44, Tryz.ntmps44
    go_wp2
    go_ret
    have t := tset (tset (tset T0 6 (.int .i64 0)) 2 (.bool true)) 3 (.bool true)
    exact ⟨rfl, HH.out.setPow ⟨q1, q2, by simp, by simp, HO.out.w0, HO.out.w1⟩ t (((HD.out.fall 0).off true).opn true), t⟩
  · by_cases hf0 : 0 < fall
    · have df : decide (0 < fall) = true := decide_eq_true hf0
      have dg : (fall - 1 == 0) = false := beq_eq_false_iff_ne.2 (by omega)
      by_cases ha0 : 0 < arm
      · have da : decide (0 < arm) = true := decide_eq_true ha0
        by_cases hw : what = 0 ∨ what = x
        · have dw : (what == 0) = true ∨ ((what == 0) = false ∧ (what == x) = true) := by
            by_cases hw0 : what = 0
            · exact .inl (beq_iff_eq.2 hw0)
            · exact .inr ⟨beq_eq_false_iff_ne.2 hw0, beq_iff_eq.2 (hw.resolve_left hw0)⟩
          by_cases ha1 : arm = 1
          · rcases dw with dw | ⟨dw, dv⟩
            · subst ha1
              have e : AP.count ⟨off, opn, 1, what, fall⟩ x = (40, ⟨off, opn, 0, what, fall - 1⟩) := by
                unfold AP.count AP.fell; simp only; rw [if_neg hf1, if_pos (by omega), if_pos hf0]; rfl
              rw [e]
              go_enter Tryz.func44, Tryz.ntmps44
              go_wp2
              go_ret
              have t := tset (tset T0 6 (.int .i64 (fall - 1))) 4 (.int .i64 0)
              exact ⟨rfl, HH.out.setPow ⟨by simp only; omega, by simp only; omega, by simp only; omega, by simp only; omega, HO.out.w0, HO.out.w1⟩ t ((HD.out.fall (fall - 1)).arm 0), t⟩
            · subst ha1
              have e : AP.count ⟨off, opn, 1, what, fall⟩ x = (40, ⟨off, opn, 0, what, fall - 1⟩) := by
                unfold AP.count AP.fell; simp only; rw [if_neg hf1, if_pos (by omega), if_pos hf0]; rfl
              rw [e]
              go_enter Tryz.func44, Tryz.ntmps44
              go_wp2
              go_ret
              have t := tset (tset T0 6 (.int .i64 (fall - 1))) 4 (.int .i64 0)
              exact ⟨rfl, HH.out.setPow ⟨by simp only; omega, by simp only; omega, by simp only; omega, by simp only; omega, HO.out.w0, HO.out.w1⟩ t ((HD.out.fall (fall - 1)).arm 0), t⟩
          · have d1 : (arm - 1 == 0) = false := beq_eq_false_iff_ne.2 (by omega)
            rcases dw with dw | ⟨dw, dv⟩
            · have e : AP.count ⟨off, opn, arm, what, fall⟩ x = (0, ⟨off, opn, arm - 1, what, fall - 1⟩) := by
                unfold AP.count AP.fell; simp only; rw [if_neg hf1, if_pos (by omega), if_pos hf0, if_neg (by omega)]
              rw [e]
              go_enter Tryz.func44, Tryz.ntmps44
              go_wp2
              go_ret
              have t := tset (tset T0 6 (.int .i64 (fall - 1))) 4 (.int .i64 (arm - 1))
              exact ⟨rfl, HH.out.setPow ⟨by simp only; omega, by simp only; omega, by simp only; omega, by simp only; omega, HO.out.w0, HO.out.w1⟩ t ((HD.out.fall (fall - 1)).arm (arm - 1)), t⟩
            · have e : AP.count ⟨off, opn, arm, what, fall⟩ x = (0, ⟨off, opn, arm - 1, what, fall - 1⟩) := by
                unfold AP.count AP.fell; simp only; rw [if_neg hf1, if_pos (by omega), if_pos hf0, if_neg (by omega)]
              rw [e]
              go_enter Tryz.func44, Tryz.ntmps44
              go_wp2
              go_ret
              have t := tset (tset T0 6 (.int .i64 (fall - 1))) 4 (.int .i64 (arm - 1))
              exact ⟨rfl, HH.out.setPow ⟨by simp only; omega, by simp only; omega, by simp only; omega, by simp only; omega, HO.out.w0, HO.out.w1⟩ t ((HD.out.fall (fall - 1)).arm (arm - 1)), t⟩
        · have dw : (what == 0) = false := beq_eq_false_iff_ne.2 (by omega)
          have dv : (what == x) = false := beq_eq_false_iff_ne.2 (by omega)
          have e : AP.count ⟨off, opn, arm, what, fall⟩ x = (0, ⟨off, opn, arm, what, fall - 1⟩) := by
            unfold AP.count AP.fell; simp only; rw [if_neg hf1, if_neg (by omega), if_pos hf0]
          rw [e]
          go_enter Tryz.func44, Tryz.ntmps44
          go_wp2
          go_ret
          have t := tset T0 6 (.int .i64 (fall - 1))
          exact ⟨rfl, HH.out.setPow ⟨by simp only; omega, by simp only; omega, by simp only; omega, by simp only; omega, HO.out.w0, HO.out.w1⟩ t (HD.out.fall (fall - 1)), t⟩
      · have da : decide (0 < arm) = false := decide_eq_false ha0
        have e : AP.count ⟨off, opn, arm, what, fall⟩ x = (0, ⟨off, opn, arm, what, fall - 1⟩) := by
          unfold AP.count AP.fell; simp only; rw [if_neg hf1, if_neg (by omega), if_pos hf0]
        rw [e]
        go_enter Tryz.func44, Tryz.ntmps44
        go_wp2
        go_ret
        have t := tset T0 6 (.int .i64 (fall - 1))
        exact ⟨rfl, HH.out.setPow ⟨by simp only; omega, by simp only; omega, by simp only; omega, by simp only; omega, HO.out.w0, HO.out.w1⟩ t (HD.out.fall (fall - 1)), t⟩
    · have df : decide (0 < fall) = false := decide_eq_false hf0
      by_cases ha0 : 0 < arm
      · have da : decide (0 < arm) = true := decide_eq_true ha0
        by_cases hw : what = 0 ∨ what = x
        · have dw : (what == 0) = true ∨ ((what == 0) = false ∧ (what == x) = true) := by
            by_cases hw0 : what = 0
            · exact .inl (beq_iff_eq.2 hw0)
            · exact .inr ⟨beq_eq_false_iff_ne.2 hw0, beq_iff_eq.2 (hw.resolve_left hw0)⟩
          by_cases ha1 : arm = 1
          · rcases dw with dw | ⟨dw, dv⟩
            · subst ha1
              have e : AP.count ⟨off, opn, 1, what, fall⟩ x = (40, ⟨off, opn, 0, what, fall⟩) := by
                unfold AP.count AP.fell; simp only; rw [if_neg hf1, if_pos (by omega), if_neg hf0]; rfl
              rw [e]
              go_enter Tryz.func44, Tryz.ntmps44
              go_wp2
              go_ret
              have t := tset (T0) 4 (.int .i64 0)
              exact ⟨rfl, HH.out.setPow ⟨by simp only; omega, by simp only; omega, by simp only; omega, by simp only; omega, HO.out.w0, HO.out.w1⟩ t (HD.out.arm 0), t⟩
            · subst ha1
              have e : AP.count ⟨off, opn, 1, what, fall⟩ x = (40, ⟨off, opn, 0, what, fall⟩) := by
                unfold AP.count AP.fell; simp only; rw [if_neg hf1, if_pos (by omega), if_neg hf0]; rfl
              rw [e]
              go_enter Tryz.func44, Tryz.ntmps44
              go_wp2
              go_ret
              have t := tset (T0) 4 (.int .i64 0)
              exact ⟨rfl, HH.out.setPow ⟨by simp only; omega, by simp only; omega, by simp only; omega, by simp only; omega, HO.out.w0, HO.out.w1⟩ t (HD.out.arm 0), t⟩
          · have d1 : (arm - 1 == 0) = false := beq_eq_false_iff_ne.2 (by omega)
            rcases dw with dw | ⟨dw, dv⟩
            · have e : AP.count ⟨off, opn, arm, what, fall⟩ x = (0, ⟨off, opn, arm - 1, what, fall⟩) := by
                unfold AP.count AP.fell; simp only; rw [if_neg hf1, if_pos (by omega), if_neg hf0, if_neg (by omega)]
              rw [e]
              go_enter Tryz.func44, Tryz.ntmps44
              go_wp2
              go_ret
              have t := tset (T0) 4 (.int .i64 (arm - 1))
              exact ⟨rfl, HH.out.setPow ⟨by simp only; omega, by simp only; omega, by simp only; omega, by simp only; omega, HO.out.w0, HO.out.w1⟩ t (HD.out.arm (arm - 1)), t⟩
            · have e : AP.count ⟨off, opn, arm, what, fall⟩ x = (0, ⟨off, opn, arm - 1, what, fall⟩) := by
                unfold AP.count AP.fell; simp only; rw [if_neg hf1, if_pos (by omega), if_neg hf0, if_neg (by omega)]
              rw [e]
              go_enter Tryz.func44, Tryz.ntmps44
              go_wp2
              go_ret
              have t := tset (T0) 4 (.int .i64 (arm - 1))
              exact ⟨rfl, HH.out.setPow ⟨by simp only; omega, by simp only; omega, by simp only; omega, by simp only; omega, HO.out.w0, HO.out.w1⟩ t (HD.out.arm (arm - 1)), t⟩
        · have dw : (what == 0) = false := beq_eq_false_iff_ne.2 (by omega)
          have dv : (what == x) = false := beq_eq_false_iff_ne.2 (by omega)
          have e : AP.count ⟨off, opn, arm, what, fall⟩ x = (0, ⟨off, opn, arm, what, fall⟩) := by
            unfold AP.count AP.fell; simp only; rw [if_neg hf1, if_neg (by omega), if_neg hf0]
          rw [e]
          go_enter Tryz.func44, Tryz.ntmps44
          go_wp2
          go_ret
          have t := T0
          exact ⟨rfl, HH.out.setPow ⟨by simp only; omega, by simp only; omega, by simp only; omega, by simp only; omega, HO.out.w0, HO.out.w1⟩ t HD.out, t⟩
      · have da : decide (0 < arm) = false := decide_eq_false ha0
        have e : AP.count ⟨off, opn, arm, what, fall⟩ x = (0, ⟨off, opn, arm, what, fall⟩) := by
          unfold AP.count AP.fell; simp only; rw [if_neg hf1, if_neg (by omega), if_neg hf0]
        rw [e]
        go_enter Tryz.func44, Tryz.ntmps44
        go_wp2
        go_ret
        have t := T0
        exact ⟨rfl, HH.out.setPow ⟨by simp only; omega, by simp only; omega, by simp only; omega, by simp only; omega, HO.out.w0, HO.out.w1⟩ t HD.out, t⟩
end Go.Proofs.YtlkimfmilccanaaGreat
