import Derived.Test.YtlohfoggcdaeiaaGreatCurWriter2
import Derived.Lib.UnsafeStr
import Derived.Deep.OwnRows
/-
  The writer: Out.
-/
namespace Go.Proofs.YtlohfoggcdaeiaaGreat.Cu
set_option maxRecDepth 20000
open Go.RowKit
theorem Bytes.cells {w : World} {B g n cap : Nat} {l : List UInt8} (h : Bytes w B (.slice (some ⟨g, 0, none⟩) n cap) l) (i : Nat) (hi : i < l.length) : w.cell? ⟨g, i, none⟩ = some (byteV (byteAt l i)) := by
  rcases h.2 with ⟨h1, _⟩ | ⟨g', cap', cur, h1, hb, hg, hnc, hcm, hcs, htake⟩
  · cases h1
  · simp only [Value.slice.injEq, Option.some.injEq, Addr.mk.injEq, and_true] at h1
    obtain ⟨rfl, rfl, rfl⟩ := h1
    rw [cell_of_row w g i cur 5 (0, 0) hg]
    rw [Nat.mul_one] at htake
    have e : (cur.toList.take l.length)[i]? = (l.map byteV)[i]? := by rw [htake]
    rw [List.getElem?_take_of_lt hi, List.getElem?_map, List.getElem?_eq_getElem hi, Array.getElem?_toList] at e
    rw [e]
    unfold byteAt
    rw [List.getD_eq_getElem?_getD, List.getElem?_eq_getElem hi]
    rfl
theorem conv_nil (w : World) : (convert 77 9 (.slice none 0 0)).run Tryz.prog w = .ok (.string ⟨#[]⟩) w := by
  have hd : (convert 77 9 (.slice none 0 0)).run Tryz.prog w = .ok (.string ⟨#[]⟩) w := by
    simp [convert, run_underlying Tryz.underlying77, run_underlying Tryz.underlying9, run_underlying Tryz.underlying5, Conv.bytesToString, loadCells]
    try rfl
  exact hd
theorem Bytes.conv {w : World} {B : Nat} {v : Value} {l : List UInt8} (h : Bytes w B v l) : (convert 77 9 v).run Tryz.prog w = .ok (.string ⟨l.toArray⟩) w := by
  rcases h.2 with ⟨rfl, hl⟩ | ⟨g, cap, cur, rfl, hb, hg, _⟩
  · have e : l = [] := List.length_eq_zero_iff.1 hl
    subst e
    exact conv_nil w
  · have hr := run_convert_bytes_arg w 77 5 Tryz.underlying77 Tryz.underlying5 g 0 l.length cap (l.map fun c => (c.toNat : Int)) (by simp) (fun i hi => by
      rw [Nat.zero_add, h.cells i hi]
      unfold byteAt byteV
      rw [List.getD_eq_getElem?_getD, List.getElem?_eq_getElem hi]
      simp [hi]) 9 Tryz.underlying9
    have e : strOfNums (l.map fun c => (c.toNat : Int)) = ⟨l.toArray⟩ := by
      simp only [strOfNums, List.map_map, Function.comp_def, Int.toNat_natCast]
      simp
    rw [e] at hr
    exact hr
theorem below_drewN {B : Nat} {w w' : World} (h : Below B w w') (n : Nat) : Below B w (w'.drewN n) := ⟨h.os, h.tape, h.output, h.size, h.block⟩
def outS (s : Option (List UInt8)) : ByteArray := ⟨(s.getD []).toArray⟩
def outE (s : Option (List UInt8)) : Int := if s.isSome then 0 else 3
set_option maxHeartbeats 1000000 in
theorem wOut (p : Nat) (v : Value) (s : Option (List UInt8)) (w : World) (h : CW w p v s) :
    Calls Tryz.prog 32 #[.pointer (some ⟨p, 0, none⟩)] w fun e w' => e = .returned (.tuple #[.string (outS s), .int .i64 (outE s)]) ∧ Below w.heap.size w w' := by
  have hT : Two 111 w p v (outE s) := by cases s with | none => exact h.1 | some l => exact h.1
  have hc : ∀ m, (convert 77 9 v).run Tryz.prog (w.drewN m) = .ok (.string (outS s)) (w.drewN m) := fun m => by
    cases s with
    | none => rw [h.2]; exact conv_nil _
    | some l => exact Bytes.conv (w := w.drewN m) h.2
  have c0 := hT.c0
  have c1 := hT.c1
  generalize outS s = S at hc ⊢
  generalize outE s = E at c1 ⊢
  clear hT h
  go_enter Tryz.func32, Tryz.ntmps32
  go_wp2
  go_quiet (fail)
  go_wp2
  go_ret2
  exact ⟨rfl, below_drewN (Below.refl _ _) nq⟩
end Go.Proofs.YtlohfoggcdaeiaaGreat.Cu
/-
  strings.Clone: the same text.
-/
namespace Go.Proofs.YtlohfoggcdaeiaaGreat.Cu
set_option maxRecDepth 20000
open Go.RowKit
section
variable {ops : Array Oper} {rest : List Oper} {o : Oper} {a : Act} {w : World} {Q : Exit → Act → World → Prop}
theorem wpList_make_bytes (hgd : o.guard = none) (l c : Operand) (ho : o.op = .makeSlice 77 l c) (n : Nat) (hl : a.eval l = .int .i64 (n : Int)) (hc : a.eval c = .int .i64 (n : Int)) (hn : n ≤ 281474976710656)
    (h : ∀ w1 cur, w1.heap[w.heap.size]? = some (.cells cur 5 (0, 0)) → cur.size = n → Below w.heap.size w w1 → w1.heap.size = w.heap.size + 1 → wpList Tryz.prog ops Q rest (a.put o.dst (.slice (some ⟨w.heap.size, 0, none⟩) n n)) w1) : wpList Tryz.prog ops Q (o :: rest) a w := by
  have hr := run_make_row' (P := Tryz.prog) 77 5 (.int .u8 0) 1 Tryz.underlying77 info5 rfl .i64 .i64 n (by omega) (by omega) w
  refine wpList_plain hgd fun K hK => ?_
  unfold Oper.wp execOp
  simp only [ho, hl, hc, hr, Sem.run_bind, Sem.run_pure, Result.andThen_ok]
  refine hK _ _ (h _ _ (heap_alloc_new w _) ?_ ((Below.refl _ _).alloc (Nat.le_refl _) _) (by simp))
  simp [madeCells]
theorem size5 (w : World) : (sizeOf 5).run Tryz.prog w = .ok 1 w := by
  have h : (Tryz.prog.info? 5).map (·.size) = some 1 := by kernel_rfl
  cases hq : Tryz.prog.info? 5 with
  | none => simp [hq] at h
  | some i => simp [hq] at h; simp [sizeOf, typeInfo, hq, h]
/-- copy(b[..n], s), b the head of block g. -/
theorem run_copy_text (w : World) (ty : TypeId) (g o dLen dCap : Nat) (r : ByteArray) (t : TypeId) (cur : Array Value) (hle : r.size ≤ dLen) (hg : w.heap[g]? = some (.cells cur t (0, 0))) (hfit : o + r.size ≤ cur.size) :
    (Builtin.copy_ #[77, 9] ty #[.slice (some ⟨g, o, none⟩) dLen dCap, .string r]).run Tryz.prog w =
      .ok (goInt r.size) (w.setRow g (cur.toList.take o ++ r.data.toList.map byteV ++ cur.toList.drop (o + (r.data.toList.map byteV).length)).toArray) := by
  have hst := run_storeCells_at Tryz.prog g o t (r.data.toList.map byteV) 0 cur w hg (by rw [List.length_map, str_len]; omega) (fun v hv => by
    obtain ⟨i, _, rfl⟩ := List.mem_map.1 hv
    rfl)
  rw [Nat.add_zero] at hst
  have hq := size5 w
  have hm : Nat.min r.size dLen = r.size := Nat.min_eq_left hle
  have ht : List.take r.size (List.map (fun b : UInt8 => Value.int IntKind.u8 (b.toNat : Int)) r.data.toList) = r.data.toList.map byteV := by
    rw [List.take_of_length_le (by rw [List.length_map, str_len]; exact Nat.le_refl _)]; rfl
  simp [Builtin.copy_, run_underlying Tryz.underlying77, Builtin.lenOf, Builtin.firstCells, hq, hm]
  rw [ht, hst]
  simp [Result.andThen]
theorem wpList_copy_text (hgd : o.guard = none) (d s : Operand) (ho : o.op = .call { callee := .builtin .copy, args := #[d, s], argTypes := #[77, 9] }) (g dLen dCap : Nat) (r : ByteArray) (hd : a.eval d = .slice (some ⟨g, 0, none⟩) dLen dCap) (hs : a.eval s = .string r)
    (t : TypeId) (cur : Array Value) (hle : r.size ≤ dLen) (hg : w.heap[g]? = some (.cells cur t (0, 0))) (hfit : cur.size = r.size)
    (h : ∀ w1, w1.heap[g]? = some (.cells (r.data.toList.map byteV).toArray t (0, 0)) → Below g w w1 → wpList Tryz.prog ops Q rest (a.put o.dst (.int .i64 (r.size : Int))) w1) : wpList Tryz.prog ops Q (o :: rest) a w := by
  have hr := run_copy_text w o.type g 0 dLen dCap r t cur hle hg (by omega)
  have e : (cur.toList.take 0 ++ r.data.toList.map byteV ++ cur.toList.drop (0 + (r.data.toList.map byteV).length)).toArray = (r.data.toList.map byteV).toArray := by
    rw [List.take_zero, List.nil_append, List.drop_of_length_le (by simp; omega), List.append_nil]
  rw [e] at hr
  refine wpList_plain hgd fun K hK => ?_
  unfold Oper.wp execOp
  simp only [ho, resolve, invoke, builtin, Sem.run_bind, Sem.run_pure, Result.andThen_ok, List.map_toArray, List.map_cons, List.map_nil, hd, hs, hr]
  exact hK _ _ (h _ (setRow_heap w g cur _ t _ hg) ⟨rfl, rfl, rfl, by simp, fun k hk => setRow_other w g k _ (by omega)⟩)
theorem wpList_unsafe_text (hgd : o.guard = none) (d s : Operand) (ho : o.op = .call { callee := .builtin .unsafeString, args := #[d, s], argTypes := #[166, 3] }) (g : Nat) (r : ByteArray) (hd : a.eval d = .pointer (some ⟨g, 0, none⟩)) (hs : a.eval s = .int .i64 (r.size : Int))
    (hr0 : 0 < r.size) (hr1 : r.size ≤ 9223372036854775807) (hg : w.heap[g]? = some (.cells (r.data.toList.map byteV).toArray 5 (0, 0)))
    (h : ∀ w1, Below g w w1 → wpList Tryz.prog ops Q rest (a.put o.dst (.string r)) w1) : wpList Tryz.prog ops Q (o :: rest) a w := by
  have hsh : w.shape? g = some (5, r.size) := by simp [World.shape?, hg]
  have hr := Lib.run_unsafeString_row (P := Tryz.prog) w 166 3 o.type 5 Tryz.underlying166 (by kernel_rfl) g r.size hsh r.data.toList (by rw [← List.length_pos_iff, str_len]; exact hr0) (by rw [str_len]; exact Nat.le_refl _) (by rw [str_len]; exact hr1) (fun j x hx => by
    have hadd : (⟨g, 0, none⟩ : Addr).add j = ⟨g, j, none⟩ := by unfold Addr.add; split <;> simp_all
    rw [hadd, cell_of_row w g j _ 5 (0, 0) hg, List.getElem?_toArray, List.getElem?_map, hx]; rfl)
  rw [str_len] at hr
  refine wpList_plain hgd fun K hK => ?_
  unfold Oper.wp execOp
  simp only [ho, resolve, invoke, builtin, Sem.run_bind, Sem.run_pure, Result.andThen_ok, List.map_toArray, List.map_cons, List.map_nil, hd, hs, hr]
  exact hK _ _ (h _ (Lib.below_freeze (p := ⟨g, 0, none⟩) (Below.refl g w) (Nat.le_refl _) _))
end
theorem empty_of_size {s : ByteArray} (h : s.size = 0) : s = { data := #[] } := by
  apply ByteArray.ext
  exact Array.eq_empty_of_size_eq_zero h
set_option maxRecDepth 100000 in
set_option maxHeartbeats 1000000 in
theorem clone_in (s : ByteArray) (w : World) (hs : s.size ≤ 281474976710656) : Calls Tryz.prog 108 #[.string s] w fun e w' => e = .returned (.string s) ∧ Below w.heap.size w w' := by
  by_cases h0 : s.size = 0
  · have e := empty_of_size h0
    subst e
    go_enter Tryz.func108, Tryz.ntmps108
    go_wp2
    go_ret
    exact ⟨rfl, Below.refl _ _⟩
  · have hpos : 0 < s.size := by omega
    have hd : decide ((s.size : Int) = 0) = false := decide_eq_false (by omega)
    have hb : ((s.size : Int) == 0) = false := beq_eq_false_iff_ne.2 (by omega)
    have h1 : (0 : Int) < (s.size : Int) := by omega
    have HS := hide hs
    have HT : Hid (s.size ≤ 9223372036854775807) := by show _ ≤ _; omega
    clear hs
    go_enter Tryz.func108, Tryz.ntmps108
    go_wp2_with (first | (refine wpList_make_bytes rfl _ _ rfl s.size (by rfl) (by rfl) HS.out ?_; intro w1 cur hg1 hc1 hb1 hz1; clear hz1) | (refine wpList_copy_text rfl _ _ rfl w.heap.size s.size s.size s (by rfl) (by rfl) 5 cur (Nat.le_refl _) hg1 hc1 ?_; intro w2 hg2 hb2) | (refine wpList_unsafe_text rfl _ _ rfl w.heap.size s (by rfl) (by rfl) hpos HT.out hg2 ?_; intro w3 hb3))
    go_ret
    exact ⟨rfl, (hb1.trans hb2).trans hb3⟩
theorem clone_any (s : ByteArray) (w : World) (hs : s.size ≤ 281474976710656) : Calls Tryz.prog 99 #[.string s] w fun e w' => e = .returned (.string s) ∧ Below w.heap.size w w' := by
  have HS := hide hs
  clear hs
  go_enter Tryz.func99, Tryz.ntmps99
  go_wp2_with fail
  refine (clone_in s _ HS.out).mono ?_
  rintro e w1 ⟨rfl, h1⟩
  go_wp2
  go_ret
  exact ⟨rfl, h1⟩
end Go.Proofs.YtlohfoggcdaeiaaGreat.Cu
/-
  The reader: what it has and its fault; stop, take, Err, Rest, Done, Open.
-/
namespace Go.Proofs.YtlohfoggcdaeiaaGreat.Cu
set_option maxRecDepth 20000
open Go.RowKit
abbrev RS := ByteArray × Int
def nil8 : ByteArray := { data := #[] }
/-- The program's reader at p. -/
def CR (w : World) (p : Nat) (st : RS) : Prop := Two 141 w p (.string st.1) st.2
def stopS (c : Int) (st : RS) : RS := if st.2 = 0 then (nil8, c) else st
def takeS (n : Int) (st : RS) : RS := if st.2 = 0 then (if (st.1.size : Int) < n then (nil8, 2) else (st.1.extract n.toNat st.1.size, 0)) else st
def takeA (n : Int) (st : RS) : ByteArray := if st.2 = 0 then (if (st.1.size : Int) < n then nil8 else st.1.extract 0 n.toNat) else nil8
/-- A step on what lies at p alone. -/
def Mr (p : Nat) (w w' : World) : Prop := Mw p w (.slice none 0 0) w' (.slice none 0 0)
theorem Mr.refl (p : Nat) (w : World) : Mr p w w := Mw.refl _ _ _
theorem Mr.trans {p : Nat} {w w1 w2 : World} (h : Mr p w w1) (k : Mr p w1 w2) : Mr p w w2 := Mw.trans h k
theorem Mr.of {p : Nat} {w w' : World} (h : Below w.heap.size w w') : Mr p w w' := Mw.of_below h
theorem Mr.block {p : Nat} {w w' : World} (h : Mr p w w') (k : Nat) (hk : k < w.heap.size) (hp : k ≠ p) : w'.heap[k]? = w.heap[k]? := Mw.block h k hk hp (by simp [Value.ownBlock])
theorem Mr.below {p B : Nat} {w w' : World} (h : Mr p w w') (hp : B ≤ p) (hB : B ≤ w.heap.size) : Below B w w' := Mw.below h hp hB (by simp [Value.ownBlock])
theorem Mr.size {p : Nat} {w w' : World} (h : Mr p w w') : w.heap.size ≤ w'.heap.size := Mw.size h
theorem Mr.set {p i : Nat} {w : World} (v : Value) : Mr p w (w.setCell ⟨p, i, none⟩ v) :=
  ⟨rfl, rfl, rfl, by simp, fun k _ hp _ => Below.heap_setCell w ⟨p, i, none⟩ v k hp, fun _ h => by simp [Value.ownBlock] at h⟩
theorem CR.lt {w : World} {p : Nat} {st : RS} (h : CR w p st) : p < w.heap.size := Two.lt h
theorem CR.same {w w' : World} {p : Nat} {st : RS} (h : CR w p st) (e : w'.heap[p]? = w.heap[p]?) : CR w' p st := Two.same h e
theorem CR.below {w w' : World} {p : Nat} {st : RS} (h : CR w p st) (hb : Below w.heap.size w w') : CR w' p st := Two.same h (hb.block p (Two.lt h))
set_option maxHeartbeats 1000000 in
theorem rStop (c : Int) (p : Nat) (st : RS) (w : World) (h : CR w p st) :
    Calls Tryz.prog 98 #[.pointer (some ⟨p, 0, none⟩), .int .i64 c] w fun e w' => e = .returned (.tuple #[]) ∧ CR w' p (stopS c st) ∧ Mr p w w' := by
  obtain ⟨s, f⟩ := st
  have c0 := Two.c0 h
  have c1 := Two.c1 h
  have f0 := Two.fz h 0
  have hS := Two.set0 h (.string nil8)
  have d1 := hS.c1
  have e1 := hS.fz 1
  simp only at c0 c1 d1
  by_cases hf : f = 0
  · subst hf
    have hm : nil8 = { data := #[] } := rfl
    rw [hm] at d1 e1 hS
    go_enter Tryz.func98, Tryz.ntmps98
    go_wp2
    go_end0
    exact ⟨rfl, hS.set1 c, (Mr.set _).trans (Mr.set _)⟩
  · have hq : (f == 0) = false := beq_eq_false_iff_ne.2 hf
    have hs : stopS c (s, f) = (s, f) := by unfold stopS; rw [if_neg hf]
    rw [hs]
    clear hs hS d1 e1 f0
    go_enter Tryz.func98, Tryz.ntmps98
    go_wp2
    go_end0
    exact ⟨rfl, h, Mr.refl _ _⟩
set_option maxHeartbeats 1000000 in
theorem rTake (n : Int) (p : Nat) (st : RS) (w : World) (h : CR w p st) (hn : st.2 ≠ 0 ∨ 0 ≤ n) :
    Calls Tryz.prog 85 #[.pointer (some ⟨p, 0, none⟩), .int .i64 n] w fun e w' => e = .returned (.string (takeA n st)) ∧ CR w' p (takeS n st) ∧ Mr p w w' := by
  obtain ⟨s, f⟩ := st
  have c0 := Two.c0 h
  have c1 := Two.c1 h
  simp only at c0 c1 hn
  have hm : nil8 = { data := #[] } := rfl
  by_cases hf : f = 0
  · subst hf
    have hn0 : 0 ≤ n := hn.resolve_left (fun h => h rfl)
    clear hn
    by_cases hgt : (s.size : Int) < n
    · have e1 : takeA n (s, 0) = nil8 := by unfold takeA; rw [if_pos rfl, if_pos hgt]
      have e2 : takeS n (s, 0) = stopS 2 (s, 0) := by unfold takeS stopS; rw [if_pos rfl, if_pos rfl, if_pos hgt]
      rw [e1, e2]
      clear e1 e2
      go_enter Tryz.func85, Tryz.ntmps85
      go_wp2_with fail
      refine (rStop 2 p (s, 0) _ h).mono ?_
      rintro e w1 ⟨rfl, h1, hM⟩
      have d1 := Two.c1 h1
      have d2 : (stopS 2 (s, 0)).2 = 2 := rfl
      rw [d2] at d1
      clear d2 c1 c0
      go_wp2
      go_ret
      exact ⟨rfl, h1, hM⟩
    · obtain ⟨m, rfl⟩ := Int.eq_ofNat_of_zero_le hn0
      have hms : m ≤ s.size := by omega
      have e1 : takeA (m : Int) (s, 0) = s.extract 0 m := by unfold takeA; rw [if_pos rfl, if_neg hgt]; rfl
      have e2 : takeS (m : Int) (s, 0) = (s.extract m s.size, 0) := by unfold takeS; rw [if_pos rfl, if_neg hgt]; rfl
      rw [e1, e2]
      have f0 := Two.fz h 0
      have hS := Two.set0 h (.string (s.extract m s.size))
      clear e1 e2
      have hi0 : (0 : Int) ≤ (m : Int) := by omega
      have hi1 : (m : Int) ≤ (s.size : Int) := by omega
      go_enter Tryz.func85, Tryz.ntmps85
      go_wp2
      go_ret
      exact ⟨rfl, hS, Mr.set _⟩
  · have hq : (f == 0) = false := beq_eq_false_iff_ne.2 hf
    have hq2 : (f != 0) = true := by simp [hf]
    have e1 : takeA n (s, f) = nil8 := by unfold takeA; rw [if_neg hf]
    have e2 : takeS n (s, f) = (s, f) := by unfold takeS; rw [if_neg hf]
    have e3 : stopS 2 (s, f) = (s, f) := by unfold stopS; rw [if_neg hf]
    have E3 := hide e3
    rw [e1, e2]
    clear e1 e2 e3 hn
    by_cases hgt : (s.size : Int) < n
    · go_enter Tryz.func85, Tryz.ntmps85
      go_wp2_with fail
      refine (rStop 2 p (s, f) _ h).mono ?_
      rintro e w1 ⟨rfl, h1, hM⟩
      rw [E3.out] at h1
      have d1 := Two.c1 h1
      simp only at d1
      go_wp2
      go_ret
      exact ⟨rfl, h1, hM⟩
    · go_enter Tryz.func85, Tryz.ntmps85
      go_wp2
      go_ret
      exact ⟨rfl, h, Mr.refl _ _⟩
theorem rErr (p : Nat) (st : RS) (w : World) (h : CR w p st) : Calls Tryz.prog 61 #[.pointer (some ⟨p, 0, none⟩)] w fun e w' => e = .returned (.int .i64 st.2) ∧ w = w' := by
  have c1 := Two.c1 h
  go_enter Tryz.func61, Tryz.ntmps61
  go_wp2
  go_ret
  exact ⟨rfl, rfl⟩
theorem rRest (p : Nat) (st : RS) (w : World) (h : CR w p st) (hs : st.1.size ≤ 281474976710656) : Calls Tryz.prog 107 #[.pointer (some ⟨p, 0, none⟩)] w fun e w' => e = .returned (.string st.1) ∧ Below w.heap.size w w' := by
  have c0 := Two.c0 h
  have HS := hide hs
  clear hs
  go_enter Tryz.func107, Tryz.ntmps107
  go_wp2_with fail
  refine (clone_any st.1 _ HS.out).mono ?_
  rintro e w1 ⟨rfl, h1⟩
  go_wp2
  go_ret
  exact ⟨rfl, h1⟩
def doneS (st : RS) : Int := if st.1.size = 0 then st.2 else 4
-- left out in this seat: rDone
theorem rOpen (s : ByteArray) (w : World) : Calls Tryz.prog 54 #[.string s] w fun e w' => e = .returned (.pointer (some ⟨w.heap.size, 0, none⟩)) ∧ CR w' w.heap.size (s, 0) ∧ Below w.heap.size w w' ∧ w'.heap.size = w.heap.size + 1 := by
  go_enter Tryz.func54, Tryz.ntmps54
  go_wp2
  go_ret
  exact ⟨rfl, Two.new w 141 _ 0, (Below.refl _ _).alloc (Nat.le_refl _) _, by simp⟩
end Go.Proofs.YtlohfoggcdaeiaaGreat.Cu
/-
  read and get of each kind; U8, U16, U32, U64, I64 of the reader.
-/
namespace Go.Proofs.YtlohfoggcdaeiaaGreat.Cu
set_option maxRecDepth 20000
open Go.RowKit
def vAt (l : List UInt8) (i : Nat) : Nat := be (l.take i) * 256 ^ (l.length - i)
def zAt (l : List UInt8) (i : Nat) : Nat := (byteAt l i).toNat * 256 ^ (l.length - 1 - i)
theorem vAt_zero (l : List UInt8) : vAt l 0 = 0 := by simp [vAt, be]
theorem vAt_all (l : List UInt8) : vAt l l.length = be l := by simp [vAt]
theorem vAt_succ (l : List UInt8) (i : Nat) (hi : i < l.length) : vAt l (i + 1) = vAt l i + zAt l i := by
  unfold vAt zAt
  have e : l.take (i + 1) = l.take i ++ [byteAt l i] := by
    rw [List.take_succ_eq_append_getElem hi]; unfold byteAt; rw [List.getD_eq_getElem?_getD, List.getElem?_eq_getElem hi]; rfl
  rw [e, be_snoc, show l.length - (i + 1) = l.length - 1 - i by omega, show l.length - i = (l.length - 1 - i) + 1 by omega, Nat.pow_succ, Nat.add_mul, Nat.mul_assoc, Nat.mul_comm 256]
theorem vAt_lt (l : List UInt8) (i : Nat) (hi : i ≤ l.length) : vAt l i < 256 ^ l.length := by
  unfold vAt
  have h := be_lt (l.take i)
  rw [List.length_take, Nat.min_eq_left hi] at h
  have h2 : be (l.take i) * 256 ^ (l.length - i) < 256 ^ i * 256 ^ (l.length - i) := Nat.mul_lt_mul_of_pos_right h (Nat.pow_pos (by decide))
  rwa [← Nat.pow_add, show i + (l.length - i) = l.length by omega] at h2
theorem zAt_lt (l : List UInt8) (i : Nat) (hi : i < l.length) : zAt l i < 256 ^ (l.length - i) := by
  unfold zAt
  have h := (byteAt l i).toNat_lt
  rw [show l.length - i = (l.length - 1 - i) + 1 by omega, Nat.pow_succ, Nat.mul_comm (256 ^ _) 256]
  exact Nat.mul_lt_mul_of_pos_right h (Nat.pow_pos (by decide))
theorem cast_pow (m : Nat) : ((256 ^ m : Nat) : Int) = (2 : Int) ^ (8 * m) := by rw [← pow8]; simp
theorem read_step (k : IntKind) (N : Nat) (hN : 8 * N ≤ k.bits) (hk : ∀ n : Int, 0 ≤ n → n < (2 : Int) ^ (8 * N) → k.wrap n = n) (l : List UInt8) (hl : l.length ≤ N) (i : Nat) (hi : i < l.length) :
    k.wrap (((byteAt l i).toNat : Int) * (2 : Int) ^ (8 * (l.length - 1 - i))) = (zAt l i : Int) ∧ bits .or k (vAt l i : Int) (zAt l i : Int) = (vAt l (i + 1) : Int) := by
  have hz := zAt_lt l i hi
  have hv := vAt_lt l i (by omega)
  have hv2 : (vAt l i : Int) < (2 : Int) ^ (8 * N) := by
    rw [← cast_pow]
    have : 256 ^ l.length ≤ 256 ^ N := Nat.pow_le_pow_right (by decide) hl
    omega
  have hz2 : (zAt l i : Int) < (2 : Int) ^ (8 * (l.length - i)) := by rw [← cast_pow]; omega
  have hz3 : (zAt l i : Int) < (2 : Int) ^ (8 * N) := by
    rw [← cast_pow]
    have : 256 ^ (l.length - i) ≤ 256 ^ N := Nat.pow_le_pow_right (by decide) (by omega)
    omega
  constructor
  · have e : ((byteAt l i).toNat : Int) * (2 : Int) ^ (8 * (l.length - 1 - i)) = (zAt l i : Int) := by
      rw [← cast_pow]; unfold zAt; rw [Int.natCast_mul]
    rw [e]
    exact hk _ (by omega) hz3
  · rw [bits_join k (8 * N) hN hk (8 * (l.length - i)) _ _ (by omega) ?_ hv2 (by omega) hz2 hz3, vAt_succ l i hi, Int.natCast_add]
    rw [← cast_pow]
    unfold vAt
    rw [Int.natCast_mul]
    exact Int.mul_emod_left _ _
theorem wrap_in (k : IntKind) (N : Nat) (hs : k.signed = false) (hb : k.bits = 8 * N) : ∀ n : Int, 0 ≤ n → n < (2 : Int) ^ (8 * N) → k.wrap n = n := fun n h0 h1 => by
  simp only [IntKind.wrap, hs, hb]
  simp
  exact Int.emod_eq_of_lt h0 h1
theorem index_text (s : ByteArray) (k : Nat) (hk : k < s.size) (w : World) : (Instr.index 9 (.string s) (.int .i64 (k : Int))).run Tryz.prog w = .ok (.int .u8 ((byteAt s.data.toList k).toNat : Int)) w := by
  have h := run_index_string (P := Tryz.prog) w 9 s .i64 (k : Int) Tryz.underlying9
  have e : byteAt s.data.toList k = s[k] := by
    unfold byteAt
    rw [List.getD_eq_getElem?_getD, Array.getElem?_toList, Array.getElem?_eq_getElem (by exact hk)]
    rfl
  rw [h, e]
  simp [hk]

theorem takeA_le (n : Nat) (st : RS) : (takeA n st).size ≤ n := by
  unfold takeA
  split
  · split
    · exact Nat.zero_le _
    · rw [ByteArray.size_extract]; simp; omega
  · exact Nat.zero_le _
set_option maxHeartbeats 1000000 in
theorem read_8 (s : ByteArray) (w : World) (hs : s.size ≤ 1) : Calls Tryz.prog 92 #[.string s] w fun e w' => e = .returned (.int .u8 (be s.data.toList : Int)) ∧ w = w' := by
  obtain ⟨V, hV⟩ : ∃ V : Nat → Int, ∀ i, V i = (vAt s.data.toList i : Int) := ⟨_, fun _ => rfl⟩
  have hstep := fun (i : Nat) (hi : i < s.data.toList.length) => read_step .u8 1 (by decide) (wrap_in .u8 1 rfl rfl) s.data.toList (by rw [str_len]; exact hs) i hi
  have HST := hide hstep
  have h0 : V 0 = 0 := by rw [hV, vAt_zero]; rfl
  have h1 : (be s.data.toList : Int) = V s.size := by rw [hV, ← str_len, vAt_all]
  rw [h1]
  have HV := hide hV
  have H0 := hide h0.symm
  clear hV hstep h0 h1
  go_enter Tryz.func92, Tryz.ntmps92
  go_wp2
  go_loop [3, 7] (fun v i => ∃ k : Nat, k ≤ s.size ∧ i = .int .i64 (k : Int) ∧ v = .int .u8 (V k)) (fun _ i => s.size - (intOf i).toNat)
  case atStart => exact ⟨0, Nat.zero_le _, rfl, by rw [← H0.out]⟩
  case round =>
    obtain ⟨k, hk, rfl, rfl⟩ := hrel
    by_cases hlt : k < s.size
    · have hd : decide ((k : Int) < (s.size : Int)) = true := decide_eq_true (by omega)
      obtain ⟨c, hc⟩ : ∃ c : Int, ((byteAt s.data.toList k).toNat : Int) = c := ⟨_, rfl⟩
      obtain ⟨Z, hZ⟩ : ∃ Z : Int, (zAt s.data.toList k : Int) = Z := ⟨_, rfl⟩
      have HI : Hid (∀ w : World, (Instr.index 9 (.string s) (.int .i64 (k : Int))).run Tryz.prog w = .ok (.int .u8 c) w) := fun w => by rw [← hc]; exact index_text s k hlt w
      have hst := HST.out k (by rw [str_len]; exact hlt)
      rw [hc, hZ, ← HV.out, ← HV.out, str_len] at hst
      have HS1 := hide hst.1
      have HS2 := hide hst.2
      clear hst
      have HCC := hide hc
      have HZZ := hide hZ
      clear hc hZ
      go_wp2_with (first | (refine wpList_index_lit rfl _ _ _ rfl (.int .u8 c) ?_ ?_; · exact HI.out _) | (refine wpList_shl rfl _ _ _ _ rfl .u8 .i64 c _ Z (by rfl) (by rfl) (8 * (s.size - 1 - k)) (by omega) (by show _ ≤ 8; omega) HS1.out ?_) | (refine wpList_or rfl _ _ _ _ rfl .u8 (V k) Z _ (by rfl) (by rfl) HS2.out ?_))
      go_round
      case rel => exact ⟨k + 1, by omega, by go_num, rfl⟩
      case measure => simp [intOf]; omega
    · have e : k = s.size := by omega
      subst e
      have hd : decide ((s.size : Int) < (s.size : Int)) = false := by simp
      go_wp2
      go_ret
      exact ⟨rfl, rfl⟩
theorem get_8 (p : Nat) (st : RS) (w : World) (h : CR w p st) : Calls Tryz.prog 80 #[.pointer (some ⟨p, 0, none⟩)] w fun e w' => e = .returned (.int .u8 (be (takeA 1 st).data.toList : Int)) ∧ CR w' p (takeS 1 st) ∧ Mr p w w' := by
  go_enter Tryz.func80, Tryz.ntmps80
  go_wp2_with fail
  refine (width_8 _).mono ?_
  rintro e w1 ⟨rfl, rfl⟩
  go_wp2_with fail
  refine (rTake 1 p st _ h (.inr (by decide))).mono ?_
  rintro e w1 ⟨rfl, h1, hM⟩
  go_wp2_with fail
  refine (read_8 (takeA 1 st) _ (takeA_le 1 st)).mono ?_
  rintro e w2 ⟨rfl, rfl⟩
  go_wp2
  go_ret
  exact ⟨rfl, h1, hM⟩
theorem rU8 (p : Nat) (st : RS) (w : World) (h : CR w p st) : Calls Tryz.prog 55 #[.pointer (some ⟨p, 0, none⟩)] w fun e w' => e = .returned (.int .u8 (be (takeA 1 st).data.toList : Int)) ∧ CR w' p (takeS 1 st) ∧ Mr p w w' := by
  go_enter Tryz.func55, Tryz.ntmps55
  go_wp2_with fail
  refine (get_8 p st _ h).mono ?_
  rintro e w1 ⟨rfl, h1, hM⟩
  go_wp2
  go_ret
  exact ⟨rfl, h1, hM⟩
set_option maxHeartbeats 1000000 in
theorem read_16 (s : ByteArray) (w : World) (hs : s.size ≤ 2) : Calls Tryz.prog 96 #[.string s] w fun e w' => e = .returned (.int .u16 (be s.data.toList : Int)) ∧ w = w' := by
  obtain ⟨V, hV⟩ : ∃ V : Nat → Int, ∀ i, V i = (vAt s.data.toList i : Int) := ⟨_, fun _ => rfl⟩
  have hstep := fun (i : Nat) (hi : i < s.data.toList.length) => read_step .u16 2 (by decide) (wrap_in .u16 2 rfl rfl) s.data.toList (by rw [str_len]; exact hs) i hi
  have HST := hide hstep
  have h0 : V 0 = 0 := by rw [hV, vAt_zero]; rfl
  have h1 : (be s.data.toList : Int) = V s.size := by rw [hV, ← str_len, vAt_all]
  rw [h1]
  have HV := hide hV
  have H0 := hide h0.symm
  clear hV hstep h0 h1
  go_enter Tryz.func96, Tryz.ntmps96
  go_wp2
  go_loop [3, 7] (fun v i => ∃ k : Nat, k ≤ s.size ∧ i = .int .i64 (k : Int) ∧ v = .int .u16 (V k)) (fun _ i => s.size - (intOf i).toNat)
  case atStart => exact ⟨0, Nat.zero_le _, rfl, by rw [← H0.out]⟩
  case round =>
    obtain ⟨k, hk, rfl, rfl⟩ := hrel
    by_cases hlt : k < s.size
    · have hd : decide ((k : Int) < (s.size : Int)) = true := decide_eq_true (by omega)
      obtain ⟨c, hc⟩ : ∃ c : Int, ((byteAt s.data.toList k).toNat : Int) = c := ⟨_, rfl⟩
      obtain ⟨Z, hZ⟩ : ∃ Z : Int, (zAt s.data.toList k : Int) = Z := ⟨_, rfl⟩
      have HI : Hid (∀ w : World, (Instr.index 9 (.string s) (.int .i64 (k : Int))).run Tryz.prog w = .ok (.int .u8 c) w) := fun w => by rw [← hc]; exact index_text s k hlt w
      have hst := HST.out k (by rw [str_len]; exact hlt)
      rw [hc, hZ, ← HV.out, ← HV.out, str_len] at hst
      have HS1 := hide hst.1
      have HS2 := hide hst.2
      clear hst
      have hc2 : ∀ w : World, (convert 5 115 (.int .u8 c)).run Tryz.prog w = .ok (.int .u16 c) w := fun w => by
        have h := run_convert_int (P := Tryz.prog) (w := w) 5 115 .u8 c (by kernel_rfl) (by kernel_rfl)
        have e2 : IntKind.u16.wrap c = c := by
          have := (byteAt s.data.toList k).toNat_lt
          rw [← hc]; simp [IntKind.wrap, IntKind.bits, IntKind.signed]; omega
        rw [show Tryz.prog.intKind 115 = .u16 by kernel_rfl, e2] at h
        exact h
      have HC := hide hc2
      clear hc2
      have HCC := hide hc
      have HZZ := hide hZ
      clear hc hZ
      go_wp2_with (first | (refine wpList_index_lit rfl _ _ _ rfl (.int .u8 c) ?_ ?_; · exact HI.out _) | (refine wpList_conv rfl _ _ _ rfl .u8 .u16 c c (by rfl) (HC.out _) ?_) | (refine wpList_shl rfl _ _ _ _ rfl .u16 .i64 c _ Z (by rfl) (by rfl) (8 * (s.size - 1 - k)) (by omega) (by show _ ≤ 16; omega) HS1.out ?_) | (refine wpList_or rfl _ _ _ _ rfl .u16 (V k) Z _ (by rfl) (by rfl) HS2.out ?_))
      go_round
      case rel => exact ⟨k + 1, by omega, by go_num, rfl⟩
      case measure => simp [intOf]; omega
    · have e : k = s.size := by omega
      subst e
      have hd : decide ((s.size : Int) < (s.size : Int)) = false := by simp
      go_wp2
      go_ret
      exact ⟨rfl, rfl⟩
theorem get_16 (p : Nat) (st : RS) (w : World) (h : CR w p st) : Calls Tryz.prog 83 #[.pointer (some ⟨p, 0, none⟩)] w fun e w' => e = .returned (.int .u16 (be (takeA 2 st).data.toList : Int)) ∧ CR w' p (takeS 2 st) ∧ Mr p w w' := by
  go_enter Tryz.func83, Tryz.ntmps83
  go_wp2_with fail
  refine (width_16 _).mono ?_
  rintro e w1 ⟨rfl, rfl⟩
  go_wp2_with fail
  refine (rTake 2 p st _ h (.inr (by decide))).mono ?_
  rintro e w1 ⟨rfl, h1, hM⟩
  go_wp2_with fail
  refine (read_16 (takeA 2 st) _ (takeA_le 2 st)).mono ?_
  rintro e w2 ⟨rfl, rfl⟩
  go_wp2
  go_ret
  exact ⟨rfl, h1, hM⟩
theorem rU16 (p : Nat) (st : RS) (w : World) (h : CR w p st) : Calls Tryz.prog 58 #[.pointer (some ⟨p, 0, none⟩)] w fun e w' => e = .returned (.int .u16 (be (takeA 2 st).data.toList : Int)) ∧ CR w' p (takeS 2 st) ∧ Mr p w w' := by
  go_enter Tryz.func58, Tryz.ntmps58
  go_wp2_with fail
  refine (get_16 p st _ h).mono ?_
  rintro e w1 ⟨rfl, h1, hM⟩
  go_wp2
  go_ret
  exact ⟨rfl, h1, hM⟩
-- left out in this seat: read_32
-- left out in this seat: get_32
-- left out in this seat: rU32
set_option maxHeartbeats 1000000 in
theorem read_64 (s : ByteArray) (w : World) (hs : s.size ≤ 8) : Calls Tryz.prog 94 #[.string s] w fun e w' => e = .returned (.int .u64 (be s.data.toList : Int)) ∧ w = w' := by
  obtain ⟨V, hV⟩ : ∃ V : Nat → Int, ∀ i, V i = (vAt s.data.toList i : Int) := ⟨_, fun _ => rfl⟩
  have hstep := fun (i : Nat) (hi : i < s.data.toList.length) => read_step .u64 8 (by decide) (wrap_in .u64 8 rfl rfl) s.data.toList (by rw [str_len]; exact hs) i hi
  have HST := hide hstep
  have h0 : V 0 = 0 := by rw [hV, vAt_zero]; rfl
  have h1 : (be s.data.toList : Int) = V s.size := by rw [hV, ← str_len, vAt_all]
  rw [h1]
  have HV := hide hV
  have H0 := hide h0.symm
  clear hV hstep h0 h1
  go_enter Tryz.func94, Tryz.ntmps94
  go_wp2
  go_loop [3, 7] (fun v i => ∃ k : Nat, k ≤ s.size ∧ i = .int .i64 (k : Int) ∧ v = .int .u64 (V k)) (fun _ i => s.size - (intOf i).toNat)
  case atStart => exact ⟨0, Nat.zero_le _, rfl, by rw [← H0.out]⟩
  case round =>
    obtain ⟨k, hk, rfl, rfl⟩ := hrel
    by_cases hlt : k < s.size
    · have hd : decide ((k : Int) < (s.size : Int)) = true := decide_eq_true (by omega)
      obtain ⟨c, hc⟩ : ∃ c : Int, ((byteAt s.data.toList k).toNat : Int) = c := ⟨_, rfl⟩
      obtain ⟨Z, hZ⟩ : ∃ Z : Int, (zAt s.data.toList k : Int) = Z := ⟨_, rfl⟩
      have HI : Hid (∀ w : World, (Instr.index 9 (.string s) (.int .i64 (k : Int))).run Tryz.prog w = .ok (.int .u8 c) w) := fun w => by rw [← hc]; exact index_text s k hlt w
      have hst := HST.out k (by rw [str_len]; exact hlt)
      rw [hc, hZ, ← HV.out, ← HV.out, str_len] at hst
      have HS1 := hide hst.1
      have HS2 := hide hst.2
      clear hst
      have hc2 : ∀ w : World, (convert 5 79 (.int .u8 c)).run Tryz.prog w = .ok (.int .u64 c) w := fun w => by
        have h := run_convert_int (P := Tryz.prog) (w := w) 5 79 .u8 c (by kernel_rfl) (by kernel_rfl)
        have e2 : IntKind.u64.wrap c = c := by
          have := (byteAt s.data.toList k).toNat_lt
          rw [← hc]; simp [IntKind.wrap, IntKind.bits, IntKind.signed]; omega
        rw [show Tryz.prog.intKind 79 = .u64 by kernel_rfl, e2] at h
        exact h
      have HC := hide hc2
      clear hc2
      have HCC := hide hc
      have HZZ := hide hZ
      clear hc hZ
      go_wp2_with (first | (refine wpList_index_lit rfl _ _ _ rfl (.int .u8 c) ?_ ?_; · exact HI.out _) | (refine wpList_conv rfl _ _ _ rfl .u8 .u64 c c (by rfl) (HC.out _) ?_) | (refine wpList_shl rfl _ _ _ _ rfl .u64 .i64 c _ Z (by rfl) (by rfl) (8 * (s.size - 1 - k)) (by omega) (by show _ ≤ 64; omega) HS1.out ?_) | (refine wpList_or rfl _ _ _ _ rfl .u64 (V k) Z _ (by rfl) (by rfl) HS2.out ?_))
      go_round
      case rel => exact ⟨k + 1, by omega, by go_num, rfl⟩
      case measure => simp [intOf]; omega
    · have e : k = s.size := by omega
      subst e
      have hd : decide ((s.size : Int) < (s.size : Int)) = false := by simp
      go_wp2
      go_ret
      exact ⟨rfl, rfl⟩
theorem get_64 (p : Nat) (st : RS) (w : World) (h : CR w p st) : Calls Tryz.prog 82 #[.pointer (some ⟨p, 0, none⟩)] w fun e w' => e = .returned (.int .u64 (be (takeA 8 st).data.toList : Int)) ∧ CR w' p (takeS 8 st) ∧ Mr p w w' := by
  go_enter Tryz.func82, Tryz.ntmps82
  go_wp2_with fail
  refine (width_64 _).mono ?_
  rintro e w1 ⟨rfl, rfl⟩
  go_wp2_with fail
  refine (rTake 8 p st _ h (.inr (by decide))).mono ?_
  rintro e w1 ⟨rfl, h1, hM⟩
  go_wp2_with fail
  refine (read_64 (takeA 8 st) _ (takeA_le 8 st)).mono ?_
  rintro e w2 ⟨rfl, rfl⟩
  go_wp2
  go_ret
  exact ⟨rfl, h1, hM⟩
-- left out in this seat: rU64
end Go.Proofs.YtlohfoggcdaeiaaGreat.Cu
