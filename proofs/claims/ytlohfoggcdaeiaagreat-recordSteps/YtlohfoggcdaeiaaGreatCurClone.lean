import Derived.Test.YtlohfoggcdaeiaaGreatCurWriter2
import Derived.Lib.UnsafeStr
import Derived.Deep.OwnRows
/-
  The writer: Out.
-/
namespace Go.Proofs.YtlohfoggcdaeiaaGreat.Cu
set_option maxRecDepth 20000
open Go.RowKit
theorem Bytes.cells {w : World} {B g n cap : Nat} {l : List UInt8} (h : Bytes w B (.slice (some ⟨g, 0, none⟩) n cap) l) (i : Nat) (hi : i < l.length) : w.cell? ⟨g, i, none⟩ = some (byteV (byteAt l i)) := by
  rcases h.2 with ⟨h1, _⟩ | ⟨g', cap', cur, h1, hb, hg, hnc, hcm, hcs, htake⟩
  · cases h1
  · simp only [Value.slice.injEq, Option.some.injEq, Addr.mk.injEq, and_true] at h1
    obtain ⟨rfl, rfl, rfl⟩ := h1
    rw [cell_of_row w g i cur 5 (0, 0) hg]
    rw [Nat.mul_one] at htake
    have e : (cur.toList.take l.length)[i]? = (l.map byteV)[i]? := by rw [htake]
    rw [List.getElem?_take_of_lt hi, List.getElem?_map, List.getElem?_eq_getElem hi, Array.getElem?_toList] at e
    rw [e]
    unfold byteAt
    rw [List.getD_eq_getElem?_getD, List.getElem?_eq_getElem hi]
    rfl
theorem conv_nil (w : World) : (convert 77 9 (.slice none 0 0)).run Tryz.prog w = .ok (.string ⟨#[]⟩) w := by
  have hd : (convert 77 9 (.slice none 0 0)).run Tryz.prog w = .ok (.string ⟨#[]⟩) w := by
    simp [convert, run_underlying Tryz.underlying77, run_underlying Tryz.underlying9, run_underlying Tryz.underlying5, Conv.bytesToString, loadCells]
    try rfl
  exact hd
theorem Bytes.conv {w : World} {B : Nat} {v : Value} {l : List UInt8} (h : Bytes w B v l) : (convert 77 9 v).run Tryz.prog w = .ok (.string ⟨l.toArray⟩) w := by
  rcases h.2 with ⟨rfl, hl⟩ | ⟨g, cap, cur, rfl, hb, hg, _⟩
  · have e : l = [] := List.length_eq_zero_iff.1 hl
    subst e
    exact conv_nil w
  · have hr := run_convert_bytes_arg w 77 5 Tryz.underlying77 Tryz.underlying5 g 0 l.length cap (l.map fun c => (c.toNat : Int)) (by simp) (fun i hi => by
      rw [Nat.zero_add, h.cells i hi]
      unfold byteAt byteV
      rw [List.getD_eq_getElem?_getD, List.getElem?_eq_getElem hi]
      simp [hi]) 9 Tryz.underlying9
    have e : strOfNums (l.map fun c => (c.toNat : Int)) = ⟨l.toArray⟩ := by
      simp only [strOfNums, List.map_map, Function.comp_def, Int.toNat_natCast]
      simp
    rw [e] at hr
    exact hr
theorem below_drewN {B : Nat} {w w' : World} (h : Below B w w') (n : Nat) : Below B w (w'.drewN n) := ⟨h.os, h.tape, h.output, h.size, h.block⟩
def outS (s : Option (List UInt8)) : ByteArray := ⟨(s.getD []).toArray⟩
def outE (s : Option (List UInt8)) : Int := if s.isSome then 0 else 3
set_option maxHeartbeats 1000000 in
theorem wOut (p : Nat) (v : Value) (s : Option (List UInt8)) (w : World) (h : CW w p v s) :
    Calls Tryz.prog 32 #[.pointer (some ⟨p, 0, none⟩)] w fun e w' => e = .returned (.tuple #[.string (outS s), .int .i64 (outE s)]) ∧ Below w.heap.size w w' := by
  have hT : Two 111 w p v (outE s) := by cases s with | none => exact h.1 | some l => exact h.1
  have hc : ∀ m, (convert 77 9 v).run Tryz.prog (w.drewN m) = .ok (.string (outS s)) (w.drewN m) := fun m => by
    cases s with
    | none => rw [h.2]; exact conv_nil _
    | some l => exact Bytes.conv (w := w.drewN m) h.2
  have c0 := hT.c0
  have c1 := hT.c1
  generalize outS s = S at hc ⊢
  generalize outE s = E at c1 ⊢
  clear hT h
  go_enter Tryz.func32, Tryz.ntmps32
  go_wp2
  go_quiet (fail)
  go_wp2
  go_ret2
  exact ⟨rfl, below_drewN (Below.refl _ _) nq⟩
end Go.Proofs.YtlohfoggcdaeiaaGreat.Cu
/-
  strings.Clone: the same text.
-/
namespace Go.Proofs.YtlohfoggcdaeiaaGreat.Cu
set_option maxRecDepth 20000
open Go.RowKit
section
variable {ops : Array Oper} {rest : List Oper} {o : Oper} {a : Act} {w : World} {Q : Exit → Act → World → Prop}
theorem wpList_make_bytes (hgd : o.guard = none) (l c : Operand) (ho : o.op = .makeSlice 77 l c) (n : Nat) (hl : a.eval l = .int .i64 (n : Int)) (hc : a.eval c = .int .i64 (n : Int)) (hn : n ≤ 281474976710656)
    (h : ∀ w1 cur, w1.heap[w.heap.size]? = some (.cells cur 5 (0, 0)) → cur.size = n → Below w.heap.size w w1 → w1.heap.size = w.heap.size + 1 → wpList Tryz.prog ops Q rest (a.put o.dst (.slice (some ⟨w.heap.size, 0, none⟩) n n)) w1) : wpList Tryz.prog ops Q (o :: rest) a w := by
  have hr := run_make_row' (P := Tryz.prog) 77 5 (.int .u8 0) 1 Tryz.underlying77 info5 rfl .i64 .i64 n (by omega) (by omega) w
  refine wpList_plain hgd fun K hK => ?_
  unfold Oper.wp execOp
  simp only [ho, hl, hc, hr, Sem.run_bind, Sem.run_pure, Result.andThen_ok]
  refine hK _ _ (h _ _ (heap_alloc_new w _) ?_ ((Below.refl _ _).alloc (Nat.le_refl _) _) (by simp))
  simp [madeCells]
theorem size5 (w : World) : (sizeOf 5).run Tryz.prog w = .ok 1 w := by
  have h : (Tryz.prog.info? 5).map (·.size) = some 1 := by kernel_rfl
  cases hq : Tryz.prog.info? 5 with
  | none => simp [hq] at h
  | some i => simp [hq] at h; simp [sizeOf, typeInfo, hq, h]
/-- copy(b[..n], s), b the head of block g. -/
theorem run_copy_text (w : World) (ty : TypeId) (g o dLen dCap : Nat) (r : ByteArray) (t : TypeId) (cur : Array Value) (hle : r.size ≤ dLen) (hg : w.heap[g]? = some (.cells cur t (0, 0))) (hfit : o + r.size ≤ cur.size) :
    (Builtin.copy_ #[77, 9] ty #[.slice (some ⟨g, o, none⟩) dLen dCap, .string r]).run Tryz.prog w =
      .ok (goInt r.size) (w.setRow g (cur.toList.take o ++ r.data.toList.map byteV ++ cur.toList.drop (o + (r.data.toList.map byteV).length)).toArray) := by
  have hst := run_storeCells_at Tryz.prog g o t (r.data.toList.map byteV) 0 cur w hg (by rw [List.length_map, str_len]; omega) (fun v hv => by
    obtain ⟨i, _, rfl⟩ := List.mem_map.1 hv
    rfl)
  rw [Nat.add_zero] at hst
  have hq := size5 w
  have hm : Nat.min r.size dLen = r.size := Nat.min_eq_left hle
  have ht : List.take r.size (List.map (fun b : UInt8 => Value.int IntKind.u8 (b.toNat : Int)) r.data.toList) = r.data.toList.map byteV := by
    rw [List.take_of_length_le (by rw [List.length_map, str_len]; exact Nat.le_refl _)]; rfl
  simp [Builtin.copy_, run_underlying Tryz.underlying77, Builtin.lenOf, Builtin.firstCells, hq, hm]
  rw [ht, hst]
  simp [Result.andThen]
theorem wpList_copy_text (hgd : o.guard = none) (d s : Operand) (ho : o.op = .call { callee := .builtin .copy, args := #[d, s], argTypes := #[77, 9] }) (g dLen dCap : Nat) (r : ByteArray) (hd : a.eval d = .slice (some ⟨g, 0, none⟩) dLen dCap) (hs : a.eval s = .string r)
    (t : TypeId) (cur : Array Value) (hle : r.size ≤ dLen) (hg : w.heap[g]? = some (.cells cur t (0, 0))) (hfit : cur.size = r.size)
    (h : ∀ w1, w1.heap[g]? = some (.cells (r.data.toList.map byteV).toArray t (0, 0)) → Below g w w1 → wpList Tryz.prog ops Q rest (a.put o.dst (.int .i64 (r.size : Int))) w1) : wpList Tryz.prog ops Q (o :: rest) a w := by
  have hr := run_copy_text w o.type g 0 dLen dCap r t cur hle hg (by omega)
  have e : (cur.toList.take 0 ++ r.data.toList.map byteV ++ cur.toList.drop (0 + (r.data.toList.map byteV).length)).toArray = (r.data.toList.map byteV).toArray := by
    rw [List.take_zero, List.nil_append, List.drop_of_length_le (by simp; omega), List.append_nil]
  rw [e] at hr
  refine wpList_plain hgd fun K hK => ?_
  unfold Oper.wp execOp
  simp only [ho, resolve, invoke, builtin, Sem.run_bind, Sem.run_pure, Result.andThen_ok, List.map_toArray, List.map_cons, List.map_nil, hd, hs, hr]
  exact hK _ _ (h _ (setRow_heap w g cur _ t _ hg) ⟨rfl, rfl, rfl, by simp, fun k hk => setRow_other w g k _ (by omega)⟩)
theorem wpList_unsafe_text (hgd : o.guard = none) (d s : Operand) (ho : o.op = .call { callee := .builtin .unsafeString, args := #[d, s], argTypes := #[166, 3] }) (g : Nat) (r : ByteArray) (hd : a.eval d = .pointer (some ⟨g, 0, none⟩)) (hs : a.eval s = .int .i64 (r.size : Int))
    (hr0 : 0 < r.size) (hr1 : r.size ≤ 9223372036854775807) (hg : w.heap[g]? = some (.cells (r.data.toList.map byteV).toArray 5 (0, 0)))
    (h : ∀ w1, Below g w w1 → wpList Tryz.prog ops Q rest (a.put o.dst (.string r)) w1) : wpList Tryz.prog ops Q (o :: rest) a w := by
  have hsh : w.shape? g = some (5, r.size) := by simp [World.shape?, hg]
  have hr := Lib.run_unsafeString_row (P := Tryz.prog) w 166 3 o.type 5 Tryz.underlying166 (by kernel_rfl) g r.size hsh r.data.toList (by rw [← List.length_pos_iff, str_len]; exact hr0) (by rw [str_len]; exact Nat.le_refl _) (by rw [str_len]; exact hr1) (fun j x hx => by
    have hadd : (⟨g, 0, none⟩ : Addr).add j = ⟨g, j, none⟩ := by unfold Addr.add; split <;> simp_all
    rw [hadd, cell_of_row w g j _ 5 (0, 0) hg, List.getElem?_toArray, List.getElem?_map, hx]; rfl)
  rw [str_len] at hr
  refine wpList_plain hgd fun K hK => ?_
  unfold Oper.wp execOp
  simp only [ho, resolve, invoke, builtin, Sem.run_bind, Sem.run_pure, Result.andThen_ok, List.map_toArray, List.map_cons, List.map_nil, hd, hs, hr]
  exact hK _ _ (h _ (Lib.below_freeze (p := ⟨g, 0, none⟩) (Below.refl g w) (Nat.le_refl _) _))
end
theorem empty_of_size {s : ByteArray} (h : s.size = 0) : s = { data := #[] } := by
  apply ByteArray.ext
  exact Array.eq_empty_of_size_eq_zero h
set_option maxRecDepth 100000 in
set_option maxHeartbeats 1000000 in
theorem clone_in (s : ByteArray) (w : World) (hs : s.size ≤ 281474976710656) : Calls Tryz.prog 108 #[.string s] w fun e w' => e = .returned (.string s) ∧ Below w.heap.size w w' := by
  by_cases h0 : s.size = 0
  · have e := empty_of_size h0
    subst e
    go_enter Tryz.func108, Tryz.ntmps108
    go_wp2
    go_ret
    exact ⟨rfl, Below.refl _ _⟩
  · have hpos : 0 < s.size := by omega
    have hd : decide ((s.size : Int) = 0) = false := decide_eq_false (by omega)
    have hb : ((s.size : Int) == 0) = false := beq_eq_false_iff_ne.2 (by omega)
    have h1 : (0 : Int) < (s.size : Int) := by omega
    have HS := hide hs
    have HT : Hid (s.size ≤ 9223372036854775807) := by show _ ≤ _; omega
    clear hs
    go_enter Tryz.func108, Tryz.ntmps108
    go_wp2_with (first | (refine wpList_make_bytes rfl _ _ rfl s.size (by rfl) (by rfl) HS.out ?_; intro w1 cur hg1 hc1 hb1 hz1; clear hz1) | (refine wpList_copy_text rfl _ _ rfl w.heap.size s.size s.size s (by rfl) (by rfl) 5 cur (Nat.le_refl _) hg1 hc1 ?_; intro w2 hg2 hb2) | (refine wpList_unsafe_text rfl _ _ rfl w.heap.size s (by rfl) (by rfl) hpos HT.out hg2 ?_; intro w3 hb3))
    go_ret
    exact ⟨rfl, (hb1.trans hb2).trans hb3⟩
theorem clone_any (s : ByteArray) (w : World) (hs : s.size ≤ 281474976710656) : Calls Tryz.prog 99 #[.string s] w fun e w' => e = .returned (.string s) ∧ Below w.heap.size w w' := by
  have HS := hide hs
  clear hs
  go_enter Tryz.func99, Tryz.ntmps99
  go_wp2_with fail
  refine (clone_in s _ HS.out).mono ?_
  rintro e w1 ⟨rfl, h1⟩
  go_wp2
  go_ret
  exact ⟨rfl, h1⟩
end Go.Proofs.YtlohfoggcdaeiaaGreat.Cu
