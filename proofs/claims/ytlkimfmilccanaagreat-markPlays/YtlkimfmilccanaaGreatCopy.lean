/-
  Pieces of bytes: sector; copy into a row of the call's own; clear.
-/
import Derived.Test.YtlkimfmilccanaaGreatFits
namespace Go.Proofs.YtlkimfmilccanaaGreat
open Go.RowKit Go.Maps Go.WideMaps
/-- v is a slice of n bytes at offset o of block B (where it has any). -/
def Piece (v : Value) (B : Option Nat) (o n : Nat) : Prop := ∃ ad cp, v = .slice ad n cp ∧ n ≤ cp ∧ (0 < n → ∃ g, B = some g ∧ ad = some ⟨g, o, none⟩)
theorem Piece.whole {w : World} {v : Value} {l : List UInt8} (h : Bytes w 0 v l) : Piece v v.ownBlock 0 l.length := by
  rcases h.2 with ⟨rfl, hn⟩ | ⟨g, cap, cur, rfl, _, _, hnc, _⟩
  · exact ⟨none, 0, by rw [hn], by omega, fun x => absurd x (by omega)⟩
  · exact ⟨some ⟨g, 0, none⟩, cap, rfl, hnc, fun _ => ⟨g, rfl, rfl⟩⟩
theorem elemB : Tryz.prog.elem 42 = 5 := by kernel_rfl
theorem undB : Tryz.prog.underlying 42 = some (.slice (Tryz.prog.elem 42)) := by kernel_rfl
theorem addr_add (g o k : Nat) : (⟨g, o, none⟩ : Addr).add k = ⟨g, o + k, none⟩ := by unfold Addr.add; split <;> simp_all
/-- v[l:h]. -/
theorem run_slice_piece (w : World) {v : Value} {l : List UInt8} (hB : Bytes w 0 v l) (i j : Nat) (hij : i ≤ j) (hj : j ≤ l.length) :
    ∃ u, (∀ w' : World, (Instr.slice 42 v (some (.int .i64 (i : Int))) (some (.int .i64 (j : Int))) none).run Tryz.prog w' = .ok u w') ∧ Piece u v.ownBlock i (j - i) := by
  rcases hB.2 with ⟨rfl, hn⟩ | ⟨g, cap, cur, rfl, _, hg, hnc, hcm, hcs, ht⟩
  · have e1 : l = [] := List.length_eq_zero_iff.1 hn
    subst e1
    have e2 : j = 0 := by simpa using hj
    have e3 : i = 0 := by omega
    subst e2 e3
    refine ⟨.slice none 0 0, fun w' => ?_, none, 0, rfl, by omega, fun x => absurd x (by omega)⟩
    rw [run_slice_lh w' 42 none 0 0 undB .i64 .i64 _ _ (by omega) (by omega) (by omega), elemB, size5]
    simp [sliced]
  · refine ⟨_, fun w' => by rw [run_slice_lh w' 42 (some ⟨g, 0, none⟩) l.length cap undB .i64 .i64 _ _ (by omega) (by omega) (by omega), elemB, size5]; rfl, ?_⟩
    unfold sliced
    refine ⟨_, _, by rw [Int.toNat_natCast, Int.toNat_natCast], by omega, fun x => ⟨g, rfl, ?_⟩⟩
    rw [if_neg (by omega)]
    simp [addr_add]
theorem run_slice_from (w : World) {v : Value} {l : List UInt8} (hB : Bytes w 0 v l) (i : Nat) (hi : i ≤ l.length) :
    ∃ u, (∀ w' : World, (Instr.slice 42 v (some (.int .i64 (i : Int))) none none).run Tryz.prog w' = .ok u w') ∧ Piece u v.ownBlock i (l.length - i) := by
  rcases hB.2 with ⟨rfl, hn⟩ | ⟨g, cap, cur, rfl, _, hg, hnc, hcm, hcs, ht⟩
  · have e1 : l = [] := List.length_eq_zero_iff.1 hn
    subst e1
    have e3 : i = 0 := by simpa using hi
    subst e3
    refine ⟨.slice none 0 0, fun w' => ?_, none, 0, rfl, by simp, fun x => absurd x (by simp)⟩
    rw [run_slice_l w' 42 none 0 0 undB .i64 ((0 : Nat) : Int) (by omega) (by omega), elemB, size5]
    simp [sliced]
  · refine ⟨_, fun w' => by rw [run_slice_l w' 42 (some ⟨g, 0, none⟩) l.length cap undB .i64 (i : Int) (by omega) (by omega), elemB, size5]; rfl, ?_⟩
    unfold sliced
    refine ⟨_, _, by rw [Int.toNat_natCast], by omega, fun x => ⟨g, rfl, ?_⟩⟩
    rw [if_neg (by omega)]
    simp [addr_add]
/-- v[:n]: the same row, shorter. -/
theorem run_slice_cut (w : World) {v : Value} {l : List UInt8} (hB : Bytes w 0 v l) (n : Nat) (hn : n ≤ l.length) :
    ∃ u, (∀ w' : World, (Instr.slice 42 v none (some (.int .i64 (n : Int))) none).run Tryz.prog w' = .ok u w') ∧ Bytes w 0 u (l.take n) ∧ u.ownBlock = v.ownBlock := by
  rcases hB.2 with ⟨rfl, h0⟩ | ⟨g, cap, cur, rfl, hb, hg, hnc, hcm, hcs, ht⟩
  · have e1 : l = [] := List.length_eq_zero_iff.1 h0
    subst e1
    have e2 : n = 0 := by simpa using hn
    subst e2
    refine ⟨.slice none 0 0, fun w' => ?_, Bytes.nil _ _, rfl⟩
    rw [run_slice_h w' 42 none 0 0 undB .i64 _ (by omega) (by omega), elemB, size5]
    simp [sliced]
  · refine ⟨.slice (some ⟨g, 0, none⟩) n cap, fun w' => ?_, ?_, rfl⟩
    · rw [run_slice_h w' 42 (some ⟨g, 0, none⟩) l.length cap undB .i64 _ (by omega) (by omega), elemB, size5]
      simp only [Result.andThen_ok, sliced, Int.toNat_natCast, Nat.sub_zero]
      congr 2
      split
      · rfl
      · simp [addr_add]
    · have e : (l.take n).length = n := by rw [List.length_take]; omega
      refine ⟨by simp, .inr ⟨g, cap, cur, by rw [e], hb, hg, by rw [e]; omega, hcm, hcs, ?_⟩⟩
      rw [e, Nat.mul_one] at *
      have h2 : cur.toList.take l.length = l.map byteV := by simpa using ht
      have h3 : cur.toList.take n = (cur.toList.take l.length).take n := by rw [List.take_take, Nat.min_eq_left hn]
      rw [h3, h2, List.map_take]
/-- The bytes of a piece. -/
theorem piece_cells {w : World} {v : Value} {l : List UInt8} {o n : Nat} (hB : Bytes w 0 v l) {g : Nat} (hg : v.ownBlock = some g) (h : o + n ≤ l.length) : ∀ j x, (((l.drop o).take n).map byteV)[j]? = some x → w.cell? ((⟨g, o, none⟩ : Addr).add j) = some x := by
  intro j x hx
  rcases hB.2 with ⟨rfl, _⟩ | ⟨g', cap, cur, rfl, _, hgg, hnc, hcm, hcs, ht⟩
  · cases hg
  · have e : g' = g := by simpa [Value.ownBlock] using hg
    subst e
    rw [addr_add, cell_of_row w g' (o + j) _ 5 (0, 0) hgg]
    have h2 : cur.toList.take l.length = l.map byteV := by simpa using ht
    rw [List.getElem?_map] at hx
    obtain ⟨c, hc, rfl⟩ := Option.map_eq_some_iff.1 hx
    have hj : j < n := by
      have := (List.getElem?_eq_some_iff.1 hc).1
      rw [List.length_take] at this
      omega
    rw [List.getElem?_take_of_lt hj, List.getElem?_drop] at hc
    have h4 : (l.map byteV)[o + j]? = some (byteV c) := by rw [List.getElem?_map, hc]; rfl
    rw [← h2, List.getElem?_take_of_lt (by omega)] at h4
    simpa using h4
/-- What a row holds behind a store of some bytes. -/
theorem bytes_store {w : World} {g cap : Nat} {cur : Array Value} {l cs : List UInt8} {o : Nat} (hb : w.heap[g]? = some (.cells cur 5 (0, 0))) (hnc : l.length ≤ cap) (hcm : cap ≤ maxLen) (hcs : cur.size = cap * 1) (ht : cur.toList.take (l.length * 1) = l.map byteV) (ho : o + cs.length ≤ l.length) :
    Bytes (w.setRow g (cur.toList.take o ++ cs.map byteV ++ cur.toList.drop (o + (cs.map byteV).length)).toArray) 0 (.slice (some ⟨g, 0, none⟩) l.length cap) (l.take o ++ cs ++ l.drop (o + cs.length)) := by
  have hl : (l.take o ++ cs ++ l.drop (o + cs.length)).length = l.length := by simp; omega
  refine ⟨by simp, .inr ⟨g, cap, _, by rw [hl], Nat.zero_le _, setRow_heap w g cur _ 5 _ hb, by rw [hl]; exact hnc, hcm, ?_, ?_⟩⟩
  · simp only [List.size_toArray, List.length_append, List.length_take, List.length_drop, Array.length_toList, List.length_map]
    omega
  · rw [hl, Nat.mul_one]
    rw [Nat.mul_one] at ht
    rw [List.length_map]
    apply List.ext_getElem?
    intro i
    have hz : cur.toList.length = cap := by rw [Array.length_toList]; omega
    by_cases hi : i < l.length
    · rw [List.getElem?_take_of_lt hi, List.getElem?_map]
      have hcur : ∀ q, q < l.length → cur.toList[q]? = (l.map byteV)[q]? := fun q hq => by rw [← ht, List.getElem?_take_of_lt hq]
      by_cases h1 : i < o
      · rw [List.append_assoc, List.getElem?_append_left (by rw [List.length_take]; omega), List.getElem?_take_of_lt h1, hcur i hi, List.append_assoc, List.getElem?_append_left (by rw [List.length_take]; omega), List.getElem?_take_of_lt h1, List.getElem?_map]
      · by_cases h2 : i < o + cs.length
        · rw [List.getElem?_append_left (by simp; omega), List.getElem?_append_right (by rw [List.length_take]; omega), List.getElem?_map, List.getElem?_append_left (by simp; omega), List.getElem?_append_right (by rw [List.length_take]; omega)]
          simp only [List.length_take]
          congr 2
          omega
        · rw [List.getElem?_append_right (by simp; omega), List.getElem?_drop, List.getElem?_append_right (by simp; omega), List.getElem?_drop]
          have e1 : o + cs.length + (i - (List.take o cur.toList ++ List.map byteV cs).length) = i := by simp; omega
          have e2 : o + cs.length + (i - (List.take o l ++ cs).length) = i := by simp; omega
          rw [e1, e2, hcur i hi, List.getElem?_map]
    · rw [List.getElem?_take_eq_none (by omega), List.getElem?_map, List.getElem?_eq_none (by rw [hl]; omega)]
      rfl
theorem setRow_grown (w : World) (g : Nat) (cs : Array Value) : w.grownBy (w.setRow g cs) (some g) := ⟨rfl, rfl, rfl, by simp, fun k _ hk => setRow_other w g k _ (fun e => hk (by rw [e]))⟩
/-- copy(dst, text). -/
theorem run_copy_str (w : World) {v d : Value} {l : List UInt8} (hB : Bytes w 0 v l) {o n : Nat} (hd : Piece d v.ownBlock o n) (hfit : o + n ≤ l.length) (r : ByteArray) :
    ∃ w', (∀ ty, (Builtin.copy_ #[42, 9] ty #[d, .string r]).run Tryz.prog w = .ok (goInt (Nat.min r.size n)) w') ∧ Bytes w' 0 v (l.take o ++ r.data.toList.take n ++ l.drop (o + (r.data.toList.take n).length)) ∧ w.grownBy w' v.ownBlock := by
  obtain ⟨ad, cp, rfl, _, hpos⟩ := hd
  have hq := size5 w
  have hx : ((r.extract 0 (Nat.min r.size n)).data.map fun b : UInt8 => Value.int .u8 (b.toNat : Int)).toList = (r.data.toList.take n).map byteV := by
    rw [Array.toList_map]
    have : (r.extract 0 (Nat.min r.size n)).data.toList = r.data.toList.take n := by
      rw [ByteArray.data_extract, Array.toList_extract, List.extract_eq_take_drop, List.drop_zero]
      have h1 := str_len r
      by_cases h : r.size ≤ n
      · rw [show Nat.min r.size n = r.size from Nat.min_eq_left h, Nat.sub_zero, List.take_of_length_le (by omega), List.take_of_length_le (by omega)]
      · rw [show Nat.min r.size n = n from Nat.min_eq_right (by omega), Nat.sub_zero]
    rw [this]; rfl
  by_cases hz : Nat.min r.size n = 0
  · have h0 : r.data.toList.take n = [] := by
      have h1 := str_len r
      apply List.length_eq_zero_iff.1
      rw [List.length_take, h1, Nat.min_comm]
      exact hz
    refine ⟨w, fun ty => ?_, ?_, ⟨rfl, rfl, rfl, Nat.le_refl _, fun _ _ _ => rfl⟩⟩
    · rw [h0] at hx
      cases ad with
      | none => simp [Builtin.copy_, run_underlying Tryz.underlying42, Builtin.lenOf, Builtin.firstCells, hq, hz]
      | some a => simp [Builtin.copy_, run_underlying Tryz.underlying42, Builtin.lenOf, Builtin.firstCells, hq, hz, storeCells]
    · rw [h0]
      simpa using hB
  · have hn : 0 < n := by
      rcases Nat.eq_zero_or_pos n with e | e
      · exact absurd (by rw [e]; exact Nat.min_zero _) hz
      · exact e
    obtain ⟨g, hg, rfl⟩ := hpos hn
    have hB2 := hB
    rcases hB.2 with ⟨rfl, _⟩ | ⟨g', cap, cur, rfl, hb0, hgg, hnc, hcm, hcs, ht⟩
    · cases hg
    have e : g' = g := by simpa [Value.ownBlock] using hg
    subst e
    have hlen : (r.data.toList.take n).length = Nat.min r.size n := by rw [List.length_take, str_len, Nat.min_comm]
    have hle : (r.data.toList.take n).length ≤ n := by rw [List.length_take]; omega
    have hst := run_storeCells_at Tryz.prog g' o 5 ((r.data.toList.take n).map byteV) 0 cur w hgg (by rw [List.length_map]; omega) (fun v hv => by
      obtain ⟨i, _, rfl⟩ := List.mem_map.1 hv
      rfl)
    rw [Nat.add_zero] at hst
    refine ⟨_, fun ty => ?_, bytes_store hgg hnc hcm hcs ht (by omega), setRow_grown w g' _⟩
    rw [← hx] at hst
    simp only [Builtin.copy_, run_underlying Tryz.underlying42, Builtin.lenOf, Builtin.firstCells, hq, Sem.run_bind, Sem.run_pure, Result.andThen_ok, List.getElem?_toArray, List.getElem?_cons_zero, List.getElem?_cons_succ]
    rw [hst, hx]
    rfl
/-- copy(dst, bytes). -/
theorem run_copy_bytes (w : World) {v d v2 s : Value} {l l2 : List UInt8} (hB : Bytes w 0 v l) {o n : Nat} (hd : Piece d v.ownBlock o n) (hfit : o + n ≤ l.length) (hB2 : Bytes w 0 v2 l2) {o2 m : Nat} (hs : Piece s v2.ownBlock o2 m) (hfit2 : o2 + m ≤ l2.length) :
    ∃ w', (∀ ty, (Builtin.copy_ #[42, 42] ty #[d, s]).run Tryz.prog w = .ok (goInt (Nat.min m n)) w') ∧ Bytes w' 0 v (l.take o ++ (l2.drop o2).take (Nat.min m n) ++ l.drop (o + Nat.min m n)) ∧ w.grownBy w' v.ownBlock := by
  obtain ⟨ad, cp, rfl, _, hpos⟩ := hd
  obtain ⟨ad2, cp2, rfl, _, hpos2⟩ := hs
  have hq := size5 w
  by_cases hz : Nat.min m n = 0
  · refine ⟨w, fun ty => ?_, ?_, ⟨rfl, rfl, rfl, Nat.le_refl _, fun _ _ _ => rfl⟩⟩
    · cases ad2 with
      | none => cases ad with
        | none => simp [Builtin.copy_, run_underlying Tryz.underlying42, Builtin.lenOf, Builtin.firstCells, hq, hz]
        | some a => simp [Builtin.copy_, run_underlying Tryz.underlying42, Builtin.lenOf, Builtin.firstCells, hq, hz, storeCells]
      | some a2 =>
        have hl0 : (loadCells a2 0).run Tryz.prog w = .ok #[] w := by
          have := run_loadCells_list (P := Tryz.prog) w a2 [] (fun j v hv => by simp at hv)
          simpa using this
        cases ad with
        | none => simp [Builtin.copy_, run_underlying Tryz.underlying42, Builtin.lenOf, Builtin.firstCells, hq, hz, hl0]
        | some a => simp [Builtin.copy_, run_underlying Tryz.underlying42, Builtin.lenOf, Builtin.firstCells, hq, hz, hl0, storeCells]
    · rw [hz]
      simpa using hB
  · have hn : 0 < n := by
      rcases Nat.eq_zero_or_pos n with e | e
      · exact absurd (by rw [e]; exact Nat.min_zero _) hz
      · exact e
    have hm : 0 < m := by
      rcases Nat.eq_zero_or_pos m with e | e
      · exact absurd (by rw [e]; exact Nat.zero_min _) hz
      · exact e
    obtain ⟨g, hg, rfl⟩ := hpos hn
    obtain ⟨g2, hg2, rfl⟩ := hpos2 hm
    have hle : Nat.min m n ≤ m := Nat.min_le_left _ _
    have hle' : Nat.min m n ≤ n := Nat.min_le_right _ _
    have hcl : ((l2.drop o2).take (Nat.min m n)).length = Nat.min m n := by rw [List.length_take, List.length_drop]; omega
    have hsrc := piece_cells (n := Nat.min m n) hB2 hg2 (by omega : o2 + Nat.min m n ≤ l2.length)
    rcases hB.2 with ⟨rfl, _⟩ | ⟨g', cap, cur, rfl, hb0, hgg, hnc, hcm, hcs, ht⟩
    · cases hg
    have e : g' = g := by simpa [Value.ownBlock] using hg
    subst e
    have hrun := fun ty => run_copy_row (P := Tryz.prog) w 42 42 ty 5 g' o n cp ⟨g2, o2, none⟩ m cp2 cur 5 (((l2.drop o2).take (Nat.min m n)).map byteV) Tryz.underlying42 (by kernel_rfl) hgg (by rw [List.length_map, hcl]) hsrc (by rw [List.length_map, hcl]; omega) (fun v hv => by
      obtain ⟨i, _, rfl⟩ := List.mem_map.1 hv
      rfl)
    have hbs := bytes_store (cs := (l2.drop o2).take (Nat.min m n)) (o := o) hgg hnc hcm hcs ht (by rw [hcl]; omega)
    rw [hcl] at hbs
    refine ⟨_, fun ty => ?_, hbs, setRow_grown w g' _⟩
    rw [hrun ty, List.length_map, hcl]
/-- u[:k]. -/
theorem run_slice_less {u : Value} {B : Option Nat} {o n : Nat} (hp : Piece u B o n) (k : Nat) (hk : k ≤ n) :
    ∃ u', (∀ w' : World, (Instr.slice 42 u none (some (.int .i64 (k : Int))) none).run Tryz.prog w' = .ok u' w') ∧ Piece u' B o k := by
  obtain ⟨ad, cp, rfl, hnc, hpos⟩ := hp
  refine ⟨.slice ad k cp, fun w' => ?_, ad, cp, rfl, by omega, fun x => hpos (by omega)⟩
  rw [run_slice_h w' 42 ad n cp undB .i64 _ (by omega) (by omega), elemB, size5]
  simp only [Result.andThen_ok, sliced, Int.toNat_natCast, Nat.sub_zero, Nat.zero_mul]
  congr 2
  split
  · rfl
  · cases ad with
    | none => rfl
    | some a =>
      simp only [Option.map_some]
      congr 1
/-- string(u). -/
theorem run_conv_piece (w : World) {v u : Value} {l : List UInt8} {o n : Nat} (hB : Bytes w 0 v l) (hp : Piece u v.ownBlock o n) (h : o + n ≤ l.length) : (convert 42 9 u).run Tryz.prog w = .ok (.string ⟨((l.drop o).take n).toArray⟩) w := by
  obtain ⟨ad, cp, rfl, _, hpos⟩ := hp
  rcases Nat.eq_zero_or_pos n with e | e
  · subst e
    cases ad with
    | none =>
      rw [run_convert_bytes_nil w 42 5 Tryz.underlying42 Tryz.underlying5 0 cp 9 Tryz.underlying9]
      simp
      rfl
    | some a =>
      have hl0 : (loadCells a 0).run Tryz.prog w = .ok (([] : List Int).map (Value.int .u8)).toArray w := by
        have := run_loadCells_list (P := Tryz.prog) w a [] (fun j v hv => by simp at hv)
        simpa using this
      rw [run_convert_bytes_string w 42 9 5 _ 0 cp Tryz.underlying42 Tryz.underlying5 Tryz.underlying9, run_bytesToString w a 0 cp [] hl0]
      simp
      rfl
  · obtain ⟨g, hg, rfl⟩ := hpos e
    have hl : ((l.drop o).take n).length = n := by rw [List.length_take, List.length_drop]; omega
    have hc := piece_cells (n := n) hB hg h
    have hr := run_convert_bytes_arg w 42 5 Tryz.underlying42 Tryz.underlying5 g o n cp (((l.drop o).take n).map fun c => (c.toNat : Int)) (by rw [List.length_map, hl]) (fun i hi => by
      have hi' : i < ((l.drop o).take n).length := by omega
      have := hc i (byteV (((l.drop o).take n)[i])) (by rw [List.getElem?_map, List.getElem?_eq_getElem hi']; rfl)
      rw [addr_add] at this
      rw [this]
      simp only [byteV, List.getD_eq_getElem?_getD, List.getElem?_map, List.getElem?_eq_getElem hi', Option.map_some, Option.getD_some]) 9 Tryz.underlying9
    rw [hr]
    have e2 : strOfNums (((l.drop o).take n).map fun c => (c.toNat : Int)) = ⟨((l.drop o).take n).toArray⟩ := by
      unfold strOfNums
      rw [List.map_map]
      have e3 : ((l.drop o).take n).map ((fun n : Int => UInt8.ofNat n.toNat) ∘ fun c : UInt8 => (c.toNat : Int)) = (l.drop o).take n := by
        refine (List.map_congr_left (fun c _ => ?_)).trans (List.map_id _)
        simp
      rw [e3]
    rw [e2]
end Go.Proofs.YtlkimfmilccanaaGreat
