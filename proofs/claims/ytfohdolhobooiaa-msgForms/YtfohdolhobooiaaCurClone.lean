/-
  strings.Clone: the same text.
-/
import Derived.Test.YtfohdolhobooiaaCurOut
import Derived.Lib.UnsafeStr
import Derived.Deep.OwnRows
namespace Go.Proofs.Ytfohdolhobooiaa.Cu
open Go.RowKit
section
variable {ops : Array Oper} {rest : List Oper} {o : Oper} {a : Act} {w : World} {Q : Exit → Act → World → Prop}
theorem wpList_make_bytes (hgd : o.guard = none) (l c : Operand) (ho : o.op = .makeSlice 44 l c) (n : Nat) (hl : a.eval l = .int .i64 (n : Int)) (hc : a.eval c = .int .i64 (n : Int)) (hn : n ≤ 281474976710656)
    (h : ∀ w1 cur, w1.heap[w.heap.size]? = some (.cells cur 5 (0, 0)) → cur.size = n → Below w.heap.size w w1 → w1.heap.size = w.heap.size + 1 → wpList Try.prog ops Q rest (a.put o.dst (.slice (some ⟨w.heap.size, 0, none⟩) n n)) w1) : wpList Try.prog ops Q (o :: rest) a w := by
  have hr := run_make_row' (P := Try.prog) 44 5 (.int .u8 0) 1 Try.underlying44 info5 rfl .i64 .i64 n (by omega) (by omega) w
  refine wpList_plain hgd fun K hK => ?_
  unfold Oper.wp execOp
  simp only [ho, hl, hc, hr, Sem.run_bind, Sem.run_pure, Result.andThen_ok]
  refine hK _ _ (h _ _ (heap_alloc_new w _) ?_ ((Below.refl _ _).alloc (Nat.le_refl _) _) (by simp))
  simp [madeCells]
theorem size5 (w : World) : (sizeOf 5).run Try.prog w = .ok 1 w := by
  have h : (Try.prog.info? 5).map (·.size) = some 1 := by kernel_rfl
  cases hq : Try.prog.info? 5 with
  | none => simp [hq] at h
  | some i => simp [hq] at h; simp [sizeOf, typeInfo, hq, h]
/-- copy(b[..n], s), b the head of block g. -/
theorem run_copy_text (w : World) (ty : TypeId) (g o dLen dCap : Nat) (r : ByteArray) (t : TypeId) (cur : Array Value) (hle : r.size ≤ dLen) (hg : w.heap[g]? = some (.cells cur t (0, 0))) (hfit : o + r.size ≤ cur.size) :
    (Builtin.copy_ #[44, 9] ty #[.slice (some ⟨g, o, none⟩) dLen dCap, .string r]).run Try.prog w =
      .ok (goInt r.size) (w.setRow g (cur.toList.take o ++ r.data.toList.map byteV ++ cur.toList.drop (o + (r.data.toList.map byteV).length)).toArray) := by
  have hst := run_storeCells_at Try.prog g o t (r.data.toList.map byteV) 0 cur w hg (by rw [List.length_map, str_len]; omega) (fun v hv => by
    obtain ⟨i, _, rfl⟩ := List.mem_map.1 hv
    rfl)
  rw [Nat.add_zero] at hst
  have hq := size5 w
  have hm : Nat.min r.size dLen = r.size := Nat.min_eq_left hle
  have ht : List.take r.size (List.map (fun b : UInt8 => Value.int IntKind.u8 (b.toNat : Int)) r.data.toList) = r.data.toList.map byteV := by
    rw [List.take_of_length_le (by rw [List.length_map, str_len]; exact Nat.le_refl _)]; rfl
  simp [Builtin.copy_, run_underlying Try.underlying44, Builtin.lenOf, Builtin.firstCells, hq, hm]
  rw [ht, hst]
  simp [Result.andThen]
theorem wpList_copy_text (hgd : o.guard = none) (d s : Operand) (ho : o.op = .call { callee := .builtin .copy, args := #[d, s], argTypes := #[44, 9] }) (g dLen dCap : Nat) (r : ByteArray) (hd : a.eval d = .slice (some ⟨g, 0, none⟩) dLen dCap) (hs : a.eval s = .string r)
    (t : TypeId) (cur : Array Value) (hle : r.size ≤ dLen) (hg : w.heap[g]? = some (.cells cur t (0, 0))) (hfit : cur.size = r.size)
    (h : ∀ w1, w1.heap[g]? = some (.cells (r.data.toList.map byteV).toArray t (0, 0)) → Below g w w1 → wpList Try.prog ops Q rest (a.put o.dst (.int .i64 (r.size : Int))) w1) : wpList Try.prog ops Q (o :: rest) a w := by
  have hr := run_copy_text w o.type g 0 dLen dCap r t cur hle hg (by omega)
  have e : (cur.toList.take 0 ++ r.data.toList.map byteV ++ cur.toList.drop (0 + (r.data.toList.map byteV).length)).toArray = (r.data.toList.map byteV).toArray := by
    rw [List.take_zero, List.nil_append, List.drop_of_length_le (by simp; omega), List.append_nil]
  rw [e] at hr
  refine wpList_plain hgd fun K hK => ?_
  unfold Oper.wp execOp
  simp only [ho, resolve, invoke, builtin, Sem.run_bind, Sem.run_pure, Result.andThen_ok, List.map_toArray, List.map_cons, List.map_nil, hd, hs, hr]
  exact hK _ _ (h _ (setRow_heap w g cur _ t _ hg) ⟨rfl, rfl, rfl, by simp, fun k hk => setRow_other w g k _ (by omega)⟩)
theorem wpList_unsafe_text (hgd : o.guard = none) (d s : Operand) (ho : o.op = .call { callee := .builtin .unsafeString, args := #[d, s], argTypes := #[103, 3] }) (g : Nat) (r : ByteArray) (hd : a.eval d = .pointer (some ⟨g, 0, none⟩)) (hs : a.eval s = .int .i64 (r.size : Int))
    (hr0 : 0 < r.size) (hr1 : r.size ≤ 9223372036854775807) (hg : w.heap[g]? = some (.cells (r.data.toList.map byteV).toArray 5 (0, 0)))
    (h : ∀ w1, Below g w w1 → wpList Try.prog ops Q rest (a.put o.dst (.string r)) w1) : wpList Try.prog ops Q (o :: rest) a w := by
  have hsh : w.shape? g = some (5, r.size) := by simp [World.shape?, hg]
  have hr := Lib.run_unsafeString_row (P := Try.prog) w 103 3 o.type 5 Try.underlying103 (by kernel_rfl) g r.size hsh r.data.toList (by rw [← List.length_pos_iff, str_len]; exact hr0) (by rw [str_len]; exact Nat.le_refl _) (by rw [str_len]; exact hr1) (fun j x hx => by
    have hadd : (⟨g, 0, none⟩ : Addr).add j = ⟨g, j, none⟩ := by unfold Addr.add; split <;> simp_all
    rw [hadd, cell_of_row w g j _ 5 (0, 0) hg, List.getElem?_toArray, List.getElem?_map, hx]; rfl)
  rw [str_len] at hr
  refine wpList_plain hgd fun K hK => ?_
  unfold Oper.wp execOp
  simp only [ho, resolve, invoke, builtin, Sem.run_bind, Sem.run_pure, Result.andThen_ok, List.map_toArray, List.map_cons, List.map_nil, hd, hs, hr]
  exact hK _ _ (h _ (Lib.below_freeze (p := ⟨g, 0, none⟩) (Below.refl g w) (Nat.le_refl _) _))
end
theorem empty_of_size {s : ByteArray} (h : s.size = 0) : s = { data := #[] } := by
  apply ByteArray.ext
  exact Array.eq_empty_of_size_eq_zero h
set_option maxRecDepth 5000 in
set_option maxHeartbeats 1000000 in
theorem clone_in (s : ByteArray) (w : World) (hs : s.size ≤ 281474976710656) : Calls Try.prog 72 #[.string s] w fun e w' => e = .returned (.string s) ∧ Below w.heap.size w w' := by
  by_cases h0 : s.size = 0
  · have e := empty_of_size h0
    subst e
    go_enter Try.func72, Try.ntmps72
    go_wp2
    go_ret
    exact ⟨rfl, Below.refl _ _⟩
  · have hpos : 0 < s.size := by omega
    have hd : decide ((s.size : Int) = 0) = false := decide_eq_false (by omega)
    have hb : ((s.size : Int) == 0) = false := beq_eq_false_iff_ne.2 (by omega)
    have h1 : (0 : Int) < (s.size : Int) := by omega
    have HS := hide hs
    have HT : Hid (s.size ≤ 9223372036854775807) := by show _ ≤ _; omega
    clear hs
    go_enter Try.func72, Try.ntmps72
    go_wp2_with (first | (refine wpList_make_bytes rfl _ _ rfl s.size (by rfl) (by rfl) HS.out ?_; intro w1 cur hg1 hc1 hb1 hz1; clear hz1) | (refine wpList_copy_text rfl _ _ rfl w.heap.size s.size s.size s (by rfl) (by rfl) 5 cur (Nat.le_refl _) hg1 hc1 ?_; intro w2 hg2 hb2) | (refine wpList_unsafe_text rfl _ _ rfl w.heap.size s (by rfl) (by rfl) hpos HT.out hg2 ?_; intro w3 hb3))
    go_ret
    exact ⟨rfl, (hb1.trans hb2).trans hb3⟩
theorem clone_any (s : ByteArray) (w : World) (hs : s.size ≤ 281474976710656) : Calls Try.prog 62 #[.string s] w fun e w' => e = .returned (.string s) ∧ Below w.heap.size w w' := by
  have HS := hide hs
  clear hs
  go_enter Try.func62, Try.ntmps62
  go_wp2_with fail
  refine (clone_in s _ HS.out).mono ?_
  rintro e w1 ⟨rfl, h1⟩
  go_wp2
  go_ret
  exact ⟨rfl, h1⟩
end Go.Proofs.Ytfohdolhobooiaa.Cu
