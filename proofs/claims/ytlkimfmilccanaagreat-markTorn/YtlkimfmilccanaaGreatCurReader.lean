import Derived.Test.YtlkimfmilccanaaGreatCurOut
import Derived.Lib.UnsafeStr
import Derived.Deep.OwnRows
/-
  strings.Clone: the same text.
-/
namespace Go.Proofs.YtlkimfmilccanaaGreat.Fr
open Go.RowKit
section
variable {ops : Array Oper} {rest : List Oper} {o : Oper} {a : Act} {w : World} {Q : Exit → Act → World → Prop}
theorem wpList_make_bytes (hgd : o.guard = none) (l c : Operand) (ho : o.op = .makeSlice 42 l c) (n : Nat) (hl : a.eval l = .int .i64 (n : Int)) (hc : a.eval c = .int .i64 (n : Int)) (hn : n ≤ 281474976710656)
    (h : ∀ w1 cur, w1.heap[w.heap.size]? = some (.cells cur 5 (0, 0)) → cur.size = n → Below w.heap.size w w1 → w1.heap.size = w.heap.size + 1 → wpList Tryz.prog ops Q rest (a.put o.dst (.slice (some ⟨w.heap.size, 0, none⟩) n n)) w1) : wpList Tryz.prog ops Q (o :: rest) a w := by
  have hr := run_make_row' (P := Tryz.prog) 42 5 (.int .u8 0) 1 Tryz.underlying42 info5 rfl .i64 .i64 n (by omega) (by omega) w
  refine wpList_plain hgd fun K hK => ?_
  unfold Oper.wp execOp
  simp only [ho, hl, hc, hr, Sem.run_bind, Sem.run_pure, Result.andThen_ok]
  refine hK _ _ (h _ _ (heap_alloc_new w _) ?_ ((Below.refl _ _).alloc (Nat.le_refl _) _) (by simp))
  simp [madeCells]
theorem size5 (w : World) : (sizeOf 5).run Tryz.prog w = .ok 1 w := by
  have h : (Tryz.prog.info? 5).map (·.size) = some 1 := by kernel_rfl
  cases hq : Tryz.prog.info? 5 with
  | none => simp [hq] at h
  | some i => simp [hq] at h; simp [sizeOf, typeInfo, hq, h]
/-- copy(b[..n], s), b the head of block g. -/
theorem run_copy_text (w : World) (ty : TypeId) (g o dLen dCap : Nat) (r : ByteArray) (t : TypeId) (cur : Array Value) (hle : r.size ≤ dLen) (hg : w.heap[g]? = some (.cells cur t (0, 0))) (hfit : o + r.size ≤ cur.size) :
    (Builtin.copy_ #[42, 9] ty #[.slice (some ⟨g, o, none⟩) dLen dCap, .string r]).run Tryz.prog w =
      .ok (goInt r.size) (w.setRow g (cur.toList.take o ++ r.data.toList.map byteV ++ cur.toList.drop (o + (r.data.toList.map byteV).length)).toArray) := by
  have hst := run_storeCells_at Tryz.prog g o t (r.data.toList.map byteV) 0 cur w hg (by rw [List.length_map, str_len]; omega) (fun v hv => by
    obtain ⟨i, _, rfl⟩ := List.mem_map.1 hv
    rfl)
  rw [Nat.add_zero] at hst
  have hq := size5 w
  have hm : Nat.min r.size dLen = r.size := Nat.min_eq_left hle
  have ht : List.take r.size (List.map (fun b : UInt8 => Value.int IntKind.u8 (b.toNat : Int)) r.data.toList) = r.data.toList.map byteV := by
    rw [List.take_of_length_le (by rw [List.length_map, str_len]; exact Nat.le_refl _)]; rfl
  simp [Builtin.copy_, run_underlying Tryz.underlying42, Builtin.lenOf, Builtin.firstCells, hq, hm]
  rw [ht, hst]
  simp [Result.andThen]
theorem wpList_copy_text (hgd : o.guard = none) (d s : Operand) (ho : o.op = .call { callee := .builtin .copy, args := #[d, s], argTypes := #[42, 9] }) (g dLen dCap : Nat) (r : ByteArray) (hd : a.eval d = .slice (some ⟨g, 0, none⟩) dLen dCap) (hs : a.eval s = .string r)
    (t : TypeId) (cur : Array Value) (hle : r.size ≤ dLen) (hg : w.heap[g]? = some (.cells cur t (0, 0))) (hfit : cur.size = r.size)
    (h : ∀ w1, w1.heap[g]? = some (.cells (r.data.toList.map byteV).toArray t (0, 0)) → Below g w w1 → wpList Tryz.prog ops Q rest (a.put o.dst (.int .i64 (r.size : Int))) w1) : wpList Tryz.prog ops Q (o :: rest) a w := by
  have hr := run_copy_text w o.type g 0 dLen dCap r t cur hle hg (by omega)
  have e : (cur.toList.take 0 ++ r.data.toList.map byteV ++ cur.toList.drop (0 + (r.data.toList.map byteV).length)).toArray = (r.data.toList.map byteV).toArray := by
    rw [List.take_zero, List.nil_append, List.drop_of_length_le (by simp; omega), List.append_nil]
  rw [e] at hr
  refine wpList_plain hgd fun K hK => ?_
  unfold Oper.wp execOp
  simp only [ho, resolve, invoke, builtin, Sem.run_bind, Sem.run_pure, Result.andThen_ok, List.map_toArray, List.map_cons, List.map_nil, hd, hs, hr]
  exact hK _ _ (h _ (setRow_heap w g cur _ t _ hg) ⟨rfl, rfl, rfl, by simp, fun k hk => setRow_other w g k _ (by omega)⟩)
theorem wpList_unsafe_text (hgd : o.guard = none) (d s : Operand) (ho : o.op = .call { callee := .builtin .unsafeString, args := #[d, s], argTypes := #[173, 3] }) (g : Nat) (r : ByteArray) (hd : a.eval d = .pointer (some ⟨g, 0, none⟩)) (hs : a.eval s = .int .i64 (r.size : Int))
    (hr0 : 0 < r.size) (hr1 : r.size ≤ 9223372036854775807) (hg : w.heap[g]? = some (.cells (r.data.toList.map byteV).toArray 5 (0, 0)))
    (h : ∀ w1, Below g w w1 → wpList Tryz.prog ops Q rest (a.put o.dst (.string r)) w1) : wpList Tryz.prog ops Q (o :: rest) a w := by
  have hsh : w.shape? g = some (5, r.size) := by simp [World.shape?, hg]
  have hr := Lib.run_unsafeString_row (P := Tryz.prog) w 173 3 o.type 5 Tryz.underlying173 (by kernel_rfl) g r.size hsh r.data.toList (by rw [← List.length_pos_iff, str_len]; exact hr0) (by rw [str_len]; exact Nat.le_refl _) (by rw [str_len]; exact hr1) (fun j x hx => by
    have hadd : (⟨g, 0, none⟩ : Addr).add j = ⟨g, j, none⟩ := by unfold Addr.add; split <;> simp_all
    rw [hadd, cell_of_row w g j _ 5 (0, 0) hg, List.getElem?_toArray, List.getElem?_map, hx]; rfl)
  rw [str_len] at hr
  refine wpList_plain hgd fun K hK => ?_
  unfold Oper.wp execOp
  simp only [ho, resolve, invoke, builtin, Sem.run_bind, Sem.run_pure, Result.andThen_ok, List.map_toArray, List.map_cons, List.map_nil, hd, hs, hr]
  exact hK _ _ (h _ (Lib.below_freeze (p := ⟨g, 0, none⟩) (Below.refl g w) (Nat.le_refl _) _))
end
theorem empty_of_size {s : ByteArray} (h : s.size = 0) : s = { data := #[] } := by
  apply ByteArray.ext
  exact Array.eq_empty_of_size_eq_zero h
set_option maxRecDepth 5000 in
set_option maxHeartbeats 1000000 in
theorem clone_in (s : ByteArray) (w : World) (hs : s.size ≤ 281474976710656) : Calls Tryz.prog 81 #[.string s] w fun e w' => e = .returned (.string s) ∧ Below w.heap.size w w' := by
  by_cases h0 : s.size = 0
  · have e := empty_of_size h0
    subst e
    go_enter Tryz.func81, Tryz.ntmps81
    go_wp2
    go_ret
    exact ⟨rfl, Below.refl _ _⟩
  · have hpos : 0 < s.size := by omega
    have hd : decide ((s.size : Int) = 0) = false := decide_eq_false (by omega)
    have hb : ((s.size : Int) == 0) = false := beq_eq_false_iff_ne.2 (by omega)
    have h1 : (0 : Int) < (s.size : Int) := by omega
    have HS := hide hs
    have HT : Hid (s.size ≤ 9223372036854775807) := by show _ ≤ _; omega
    clear hs
    go_enter Tryz.func81, Tryz.ntmps81
    go_wp2_with (first | (refine wpList_make_bytes rfl _ _ rfl s.size (by rfl) (by rfl) HS.out ?_; intro w1 cur hg1 hc1 hb1 hz1; clear hz1) | (refine wpList_copy_text rfl _ _ rfl w.heap.size s.size s.size s (by rfl) (by rfl) 5 cur (Nat.le_refl _) hg1 hc1 ?_; intro w2 hg2 hb2) | (refine wpList_unsafe_text rfl _ _ rfl w.heap.size s (by rfl) (by rfl) hpos HT.out hg2 ?_; intro w3 hb3))
    go_ret
    exact ⟨rfl, (hb1.trans hb2).trans hb3⟩
theorem clone_any (s : ByteArray) (w : World) (hs : s.size ≤ 281474976710656) : Calls Tryz.prog 46 #[.string s] w fun e w' => e = .returned (.string s) ∧ Below w.heap.size w w' := by
  have HS := hide hs
  clear hs
  go_enter Tryz.func46, Tryz.ntmps46
  go_wp2_with fail
  refine (clone_in s _ HS.out).mono ?_
  rintro e w1 ⟨rfl, h1⟩
  go_wp2
  go_ret
  exact ⟨rfl, h1⟩
end Go.Proofs.YtlkimfmilccanaaGreat.Fr
/-
  The reader: what it has and its fault; stop, take, Err, Rest, Done, Open.
-/
namespace Go.Proofs.YtlkimfmilccanaaGreat.Fr
open Go.RowKit
abbrev RS := ByteArray × Int
def nil8 : ByteArray := { data := #[] }
/-- The program's reader at p. -/
def CR (w : World) (p : Nat) (st : RS) : Prop := Two 207 w p (.string st.1) st.2
def stopS (c : Int) (st : RS) : RS := if st.2 = 0 then (nil8, c) else st
def takeS (n : Int) (st : RS) : RS := if st.2 = 0 then (if (st.1.size : Int) < n then (nil8, 2) else (st.1.extract n.toNat st.1.size, 0)) else st
def takeA (n : Int) (st : RS) : ByteArray := if st.2 = 0 then (if (st.1.size : Int) < n then nil8 else st.1.extract 0 n.toNat) else nil8
/-- A step on what lies at p alone. -/
def Mr (p : Nat) (w w' : World) : Prop := Mw p w (.slice none 0 0) w' (.slice none 0 0)
theorem Mr.refl (p : Nat) (w : World) : Mr p w w := Mw.refl _ _ _
theorem Mr.trans {p : Nat} {w w1 w2 : World} (h : Mr p w w1) (k : Mr p w1 w2) : Mr p w w2 := Mw.trans h k
theorem Mr.of {p : Nat} {w w' : World} (h : Below w.heap.size w w') : Mr p w w' := Mw.of_below h
theorem Mr.block {p : Nat} {w w' : World} (h : Mr p w w') (k : Nat) (hk : k < w.heap.size) (hp : k ≠ p) : w'.heap[k]? = w.heap[k]? := Mw.block h k hk hp (by simp [Value.ownBlock])
theorem Mr.below {p B : Nat} {w w' : World} (h : Mr p w w') (hp : B ≤ p) (hB : B ≤ w.heap.size) : Below B w w' := Mw.below h hp hB (by simp [Value.ownBlock])
theorem Mr.size {p : Nat} {w w' : World} (h : Mr p w w') : w.heap.size ≤ w'.heap.size := Mw.size h
theorem Mr.set {p i : Nat} {w : World} (v : Value) : Mr p w (w.setCell ⟨p, i, none⟩ v) :=
  ⟨rfl, rfl, rfl, by simp, fun k _ hp _ => Below.heap_setCell w ⟨p, i, none⟩ v k hp, fun _ h => by simp [Value.ownBlock] at h⟩
theorem CR.lt {w : World} {p : Nat} {st : RS} (h : CR w p st) : p < w.heap.size := Two.lt h
theorem CR.same {w w' : World} {p : Nat} {st : RS} (h : CR w p st) (e : w'.heap[p]? = w.heap[p]?) : CR w' p st := Two.same h e
theorem CR.below {w w' : World} {p : Nat} {st : RS} (h : CR w p st) (hb : Below w.heap.size w w') : CR w' p st := Two.same h (hb.block p (Two.lt h))
set_option maxHeartbeats 1000000 in
theorem rStop (c : Int) (p : Nat) (st : RS) (w : World) (h : CR w p st) :
    Calls Tryz.prog 173 #[.pointer (some ⟨p, 0, none⟩), .int .i64 c] w fun e w' => e = .returned (.tuple #[]) ∧ CR w' p (stopS c st) ∧ Mr p w w' := by
  obtain ⟨s, f⟩ := st
  have c0 := Two.c0 h
  have c1 := Two.c1 h
  have f0 := Two.fz h 0
  have hS := Two.set0 h (.string nil8)
  have d1 := hS.c1
  have e1 := hS.fz 1
  simp only at c0 c1 d1
  by_cases hf : f = 0
  · subst hf
    have hm : nil8 = { data := #[] } := rfl
    rw [hm] at d1 e1 hS
    go_enter Tryz.func173, Tryz.ntmps173
    go_wp2
    go_end0
    exact ⟨rfl, hS.set1 c, (Mr.set _).trans (Mr.set _)⟩
  · have hq : (f == 0) = false := beq_eq_false_iff_ne.2 hf
    have hs : stopS c (s, f) = (s, f) := by unfold stopS; rw [if_neg hf]
    rw [hs]
    clear hs hS d1 e1 f0
    go_enter Tryz.func173, Tryz.ntmps173
    go_wp2
    go_end0
    exact ⟨rfl, h, Mr.refl _ _⟩
set_option maxHeartbeats 1000000 in
theorem rTake (n : Int) (p : Nat) (st : RS) (w : World) (h : CR w p st) (hn : st.2 ≠ 0 ∨ 0 ≤ n) :
    Calls Tryz.prog 168 #[.pointer (some ⟨p, 0, none⟩), .int .i64 n] w fun e w' => e = .returned (.string (takeA n st)) ∧ CR w' p (takeS n st) ∧ Mr p w w' := by
  obtain ⟨s, f⟩ := st
  have c0 := Two.c0 h
  have c1 := Two.c1 h
  simp only at c0 c1 hn
  have hm : nil8 = { data := #[] } := rfl
  by_cases hf : f = 0
  · subst hf
    have hn0 : 0 ≤ n := hn.resolve_left (fun h => h rfl)
    clear hn
    by_cases hgt : (s.size : Int) < n
    · have e1 : takeA n (s, 0) = nil8 := by unfold takeA; rw [if_pos rfl, if_pos hgt]
      have e2 : takeS n (s, 0) = stopS 2 (s, 0) := by unfold takeS stopS; rw [if_pos rfl, if_pos rfl, if_pos hgt]
      rw [e1, e2]
      clear e1 e2
      go_enter Tryz.func168, Tryz.ntmps168
      go_wp2_with fail
      refine (rStop 2 p (s, 0) _ h).mono ?_
      rintro e w1 ⟨rfl, h1, hM⟩
      have d1 := Two.c1 h1
      have d2 : (stopS 2 (s, 0)).2 = 2 := rfl
      rw [d2] at d1
      clear d2 c1 c0
      go_wp2
      go_ret
      exact ⟨rfl, h1, hM⟩
    · obtain ⟨m, rfl⟩ := Int.eq_ofNat_of_zero_le hn0
      have hms : m ≤ s.size := by omega
      have e1 : takeA (m : Int) (s, 0) = s.extract 0 m := by unfold takeA; rw [if_pos rfl, if_neg hgt]; rfl
      have e2 : takeS (m : Int) (s, 0) = (s.extract m s.size, 0) := by unfold takeS; rw [if_pos rfl, if_neg hgt]; rfl
      rw [e1, e2]
      have f0 := Two.fz h 0
      have hS := Two.set0 h (.string (s.extract m s.size))
      clear e1 e2
      have hi0 : (0 : Int) ≤ (m : Int) := by omega
      have hi1 : (m : Int) ≤ (s.size : Int) := by omega
      go_enter Tryz.func168, Tryz.ntmps168
      go_wp2
      go_ret
      exact ⟨rfl, hS, Mr.set _⟩
  · have hq : (f == 0) = false := beq_eq_false_iff_ne.2 hf
    have hq2 : (f != 0) = true := by simp [hf]
    have e1 : takeA n (s, f) = nil8 := by unfold takeA; rw [if_neg hf]
    have e2 : takeS n (s, f) = (s, f) := by unfold takeS; rw [if_neg hf]
    have e3 : stopS 2 (s, f) = (s, f) := by unfold stopS; rw [if_neg hf]
    have E3 := hide e3
    rw [e1, e2]
    clear e1 e2 e3 hn
    by_cases hgt : (s.size : Int) < n
    · go_enter Tryz.func168, Tryz.ntmps168
      go_wp2_with fail
      refine (rStop 2 p (s, f) _ h).mono ?_
      rintro e w1 ⟨rfl, h1, hM⟩
      rw [E3.out] at h1
      have d1 := Two.c1 h1
      simp only at d1
      go_wp2
      go_ret
      exact ⟨rfl, h1, hM⟩
    · go_enter Tryz.func168, Tryz.ntmps168
      go_wp2
      go_ret
      exact ⟨rfl, h, Mr.refl _ _⟩
theorem rOpen (s : ByteArray) (w : World) : Calls Tryz.prog 130 #[.string s] w fun e w' => e = .returned (.pointer (some ⟨w.heap.size, 0, none⟩)) ∧ CR w' w.heap.size (s, 0) ∧ Below w.heap.size w w' ∧ w'.heap.size = w.heap.size + 1 := by
  go_enter Tryz.func130, Tryz.ntmps130
  go_wp2
  go_ret
  exact ⟨rfl, Two.new w 207 _ 0, (Below.refl _ _).alloc (Nat.le_refl _) _, by simp⟩
end Go.Proofs.YtlkimfmilccanaaGreat.Fr
