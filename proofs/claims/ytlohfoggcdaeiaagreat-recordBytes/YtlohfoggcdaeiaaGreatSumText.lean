import Derived.Test.YtlohfoggcdaeiaaGreatTurned
import Derived.Laws.BytesArg
/-
  take: a text goes through the block's room.
-/
namespace Go.Proofs.YtlohfoggcdaeiaaGreat
set_option maxRecDepth 20000
open Go.RowKit S
/-- A sum under way, cell by cell. -/
def sumv (n : Num) (st : Nat → BitVec 32) (bl : Nat → UInt8) (c : Nat) : Nat → Value := fun i => if i < 8 then .int .u32 (n.u (st i)) else if i < 72 then .int .u8 ((bl (i - 8)).toNat : Int) else .int .u64 (c : Int)
/-- Block g of w is a sum that has taken L. -/
def SumIs [Inhabited S.Tbl] (n : Num) (w : World) (g : Nat) (L : List UInt8) : Prop := ∃ bl, Has w g 188 (sumv n (stateOf L) bl L.length) 73 ∧ ∀ j, j < L.length % 64 → bl j = byteAt L (64 * (L.length / 64) + j)
theorem SumIs.below [Inhabited S.Tbl] {n : Num} {w w' : World} {g b : Nat} {L : List UInt8} (h : SumIs n w g L) (hb : Below b w w') (hg : g < b) : SumIs n w' g L := by
  obtain ⟨bl, h1, h2⟩ := h
  exact ⟨bl, h1.below hb hg, h2⟩
def lay (bl : Nat → UInt8) (o : Nat) (r : List UInt8) (k : Nat) : Nat → UInt8 := fun i => if o ≤ i ∧ i < o + k then byteAt r (i - o) else bl i
theorem sumv_lay (n : Num) (st : Nat → BitVec 32) (bl : Nat → UInt8) (c o k : Nat) (r : List UInt8) (h : o + k ≤ 64) (i : Nat) : splice (sumv n st bl c) (8 + o) (fun i => .int .u8 ((byteAt r i).toNat : Int)) k i = sumv n st (lay bl o r k) c i := by
  unfold splice sumv lay
  by_cases h8 : i < 8
  · rw [if_neg (by omega), if_pos h8, if_pos h8]
  · by_cases h72 : i < 72
    · by_cases hb : 8 + o ≤ i ∧ i < 8 + o + k
      · rw [if_pos hb, if_neg h8, if_pos h72, if_pos (by omega), show i - 8 - o = i - (8 + o) by omega]
      · rw [if_neg hb, if_neg h8, if_pos h72, if_neg h8, if_pos h72, if_neg (by omega)]
    · rw [if_neg (by omega), if_neg h8, if_neg h72, if_neg h8, if_neg h72]
theorem sumv_n (n : Num) (st : Nat → BitVec 32) (bl : Nat → UInt8) (c d : Nat) (i : Nat) (hi : i < 73) : upd (sumv n st bl c) 72 (.int .u64 (d : Int)) i = sumv n st bl d i := by
  unfold upd sumv
  by_cases h : i = 72
  · subst h; simp
  · rw [if_neg h]; by_cases h8 : i < 8
    · rw [if_pos h8, if_pos h8]
    · rw [if_neg h8, if_neg h8, if_pos (by omega), if_pos (by omega)]
theorem sumv_st (n : Num) (st st' : Nat → BitVec 32) (bl : Nat → UInt8) (c i : Nat) : splice (sumv n st bl c) 0 (wv n st') 8 i = sumv n st' bl c i := by
  unfold splice sumv
  by_cases h8 : i < 8
  · rw [if_pos (by omega), if_pos h8, Nat.sub_zero]; rfl
  · rw [if_neg (by omega), if_neg h8, if_neg h8]
theorem str_len (r : ByteArray) : r.data.toList.length = r.size := by rw [Array.length_toList]; rfl
/-- copy(dst, r), dst in a block. -/
theorem run_copy_str (w : World) (ty : TypeId) (g o dLen dCap : Nat) (r : ByteArray) (t : TypeId) (f : Nat → Value) (M m : Nat) (hm : Nat.min r.size dLen = m) (hg : Has w g t f M) (hfit : o + m ≤ M) :
    (Builtin.copy_ #[77, 9] ty #[.slice (some ⟨g, o, none⟩) dLen dCap, .string r]).run Tryz.prog w =
      .ok (goInt m) (w.setRow g (tabv (splice f o (fun i => .int .u8 ((byteAt r.data.toList i).toNat : Int)) m) M)) := by
  have hmr : m ≤ r.size := by rw [← hm]; exact Nat.min_le_left _ _
  have e1 : List.take m (List.map (fun b : UInt8 => Value.int IntKind.u8 (b.toNat : Int)) r.data.toList) = (tabv (fun i => .int .u8 ((byteAt r.data.toList i).toNat : Int)) m).toList := by
    rw [show (tabv (fun i => Value.int .u8 ((byteAt r.data.toList i).toNat : Int)) m).toList = (List.range m).map (fun i => Value.int .u8 ((byteAt r.data.toList i).toNat : Int)) from by simp [tabv]]
    apply List.ext_getElem?
    intro i
    rw [List.getElem?_map]
    rcases Nat.lt_or_ge i m with h | h
    · rw [List.getElem?_take_of_lt h, List.getElem?_map, List.getElem?_range h]
      have hi : i < r.data.toList.length := by rw [str_len]; omega
      rw [List.getElem?_eq_getElem hi]
      simp only [Option.map_some, byteAt, List.getD_eq_getElem?_getD, List.getElem?_eq_getElem hi, Option.getD_some]
    · rw [List.getElem?_eq_none (l := List.take m _) (by rw [List.length_take]; omega), List.getElem?_eq_none (l := List.range m) (by rw [List.length_range]; omega)]
      rfl
  have hst := run_storeCells_at Tryz.prog g o t (tabv (fun i => .int .u8 ((byteAt r.data.toList i).toNat : Int)) m).toList 0 (tabv f M) w hg (by simp [tabv]; omega) (fun v hv => by
    simp only [tabv, List.mem_map, List.mem_range] at hv
    obtain ⟨i, _, rfl⟩ := hv
    rfl)
  rw [Nat.add_zero, tabv_splice f _ o _ M hfit] at hst
  have hq := size5 w
  simp [Builtin.copy_, run_underlying Tryz.underlying77, Builtin.lenOf, Builtin.firstCells, hq, hm]
  rw [e1, hst]
  simp [Result.andThen]
theorem wpList_copy_str {ops : Array Oper} {rest : List Oper} {o : Oper} {a : Act} {w : World} {Q : Exit → Act → World → Prop} (hgd : o.guard = none) (d s : Operand)
    (ho : o.op = .call { callee := .builtin .copy, args := #[d, s], argTypes := #[77, 9] }) (g of dLen dCap : Nat) (r : ByteArray) (hd : a.eval d = .slice (some ⟨g, of, none⟩) dLen dCap) (hs : a.eval s = .string r)
    (t : TypeId) (f : Nat → Value) (M m : Nat) (hm : Nat.min r.size dLen = m) (hg : Has w g t f M) (hfit : of + m ≤ M) (f' : Nat → Value) (hf : ∀ i, i < M → splice f of (fun i => .int .u8 ((byteAt r.data.toList i).toNat : Int)) m i = f' i)
    (h : wpList Tryz.prog ops Q rest (a.put o.dst (.int .i64 (m : Int))) (w.setRow g (tabv f' M))) : wpList Tryz.prog ops Q (o :: rest) a w := by
  have hr := run_copy_str w o.type g of dLen dCap r t f M m hm hg hfit
  rw [tabv_congr _ f' M hf] at hr
  refine wpList_plain hgd fun K hK => ?_
  unfold Oper.wp execOp
  simp only [ho, resolve, invoke, builtin, Sem.run_bind, Sem.run_pure, Result.andThen_ok, List.map_toArray, List.map_cons, List.map_nil, hd, hs, hr]
  exact hK _ _ h
theorem lay_at (bl : Nat → UInt8) (L r : List UInt8) (k : Nat) (_hk : k ≤ r.length) (hbl : ∀ j, j < L.length % 64 → bl j = byteAt L (64 * (L.length / 64) + j)) (j : Nat) (hj : j < L.length % 64 + k) : lay bl (L.length % 64) r k j = byteAt (L ++ r.take k) (64 * (L.length / 64) + j) := by
  unfold lay
  by_cases h : L.length % 64 ≤ j ∧ j < L.length % 64 + k
  · rw [if_pos h, byteAt_append_right _ _ _ (by omega), show 64 * (L.length / 64) + j - L.length = j - L.length % 64 by omega]
    unfold byteAt
    rw [List.getD_eq_getElem?_getD, List.getD_eq_getElem?_getD, List.getElem?_take_of_lt (by omega)]
  · rw [if_neg h, hbl j (by omega), byteAt_append _ _ _ (by omega)]
theorem sum_less [Inhabited S.Tbl] (n : Num) (w : World) (g : Nat) (bl : Nat → UInt8) (L r : List UInt8) (hl : r.length < 64 - L.length % 64) (hbl : ∀ j, j < L.length % 64 → bl j = byteAt L (64 * (L.length / 64) + j))
    (h : Has w g 188 (sumv n (stateOf L) (lay bl (L.length % 64) r r.length) L.length) 73) : SumIs n (w.setCell ⟨g, 72, none⟩ (.int .u64 ((L.length : Int) + (r.length : Int)))) g (L ++ r) := by
  have e : (L ++ r).length / 64 = L.length / 64 := by rw [List.length_append]; omega
  refine ⟨lay bl (L.length % 64) r r.length, ?_, fun j hj => ?_⟩
  · have := (h.set 72 (.int .u64 ((L.length + r.length : Nat) : Int))).congr _ (fun i hi => sumv_n n _ _ _ (L.length + r.length) i hi)
    rw [stateOf_less L r e, List.length_append]
    rw [Int.natCast_add] at this
    exact this
  · rw [List.length_append] at hj
    rw [e]
    have := lay_at bl L r r.length (Nat.le_refl _) hbl j (by omega)
    rwa [List.take_length] at this
theorem extract_list (r : ByteArray) (k : Nat) : (r.extract k r.size).data.toList = r.data.toList.drop k := by
  rw [ByteArray.data_extract, Array.toList_extract]
  simp only [List.extract_eq_take_drop]
  rw [List.take_of_length_le]
  rw [List.length_drop, str_len]; exact Nat.le_refl _
theorem cell_st {n : Num} {w : World} {g : Nat} {st : Nat → BitVec 32} {bl : Nat → UInt8} {c : Nat} (h : Has w g 188 (sumv n st bl c) 73) : w.cell? ⟨g, 72, none⟩ = some (.int .u64 (c : Int)) := h.cell 72 (by omega)
set_option maxHeartbeats 800000 in
theorem take_any [Inhabited S.Tbl] (n : Num) (g : Nat) (L : List UInt8) (s : ByteArray) (w : World) (hG : Glob n w) (hg2 : 2 ≤ g) (hS : SumIs n w g L) (hl : L.length + s.size < 9223372036854775808) :
    Calls Tryz.prog 144 #[.pointer (some ⟨g, 0, none⟩), .string s] w fun e w' => e = .returned (.tuple #[]) ∧ SumIs n w' g (L ++ s.data.toList) ∧ Below g w w' := by
  go_enter Tryz.func144, Tryz.ntmps144
  go_wp2
  go_loopw [1] (fun x wr => ∃ (L' : List UInt8) (r : ByteArray), L' ++ r.data.toList = L ++ s.data.toList ∧ x = .string r ∧ SumIs n wr g L' ∧ Below g w wr) (fun x _ => (match x with | .string r => r.size | _ => 0))
  case atStart => exact ⟨L, s, rfl, rfl, hS, Below.refl _ _⟩
  case round =>
    clear hS
    obtain ⟨L', r, he, rfl, hS, hb⟩ := hrel
    by_cases hr : 0 < r.size
    · obtain ⟨bl, hH, hbl⟩ := hS
      have hlen : L'.length + r.size < 9223372036854775808 := by
        have := congrArg List.length he
        simp only [List.length_append, str_len] at this
        omega
      have hd : decide ((r.size : Int) > 0) = true := by simp; omega
      have cn := cell_st hH
      have hm : L'.length % 64 < 64 := Nat.mod_lt _ (by omega)
      have hsl : ∀ w' : World, (Instr.sliceAt 186 (.pointer (some ⟨g, 8, none⟩)) (some (.int .u64 ((L'.length : Int) % 64))) none none).run Tryz.prog w' = .ok (.slice (some ⟨g, 8 + L'.length % 64, none⟩) (64 - L'.length % 64) (64 - L'.length % 64)) w' := fun w' => by
        have := sl44_l w' g 8 (L'.length % 64) .u64 hm
        rw [show ((L'.length % 64 : Nat) : Int) = (L'.length : Int) % 64 by omega] at this
        exact this
      have HH := hide hH
      have HB := hide hbl
      clear hH hbl
      go_wp2
      refine wp_region_drew_tail 10 (by kernel_rfl) (by kernel_rfl) ?_
      simp only [List.take_succ_cons, List.take_zero, List.drop_succ_cons, List.drop_zero]
      repeat (go_big_quiet_step (fail))
      refine wpQuiet_nil ?_
      intro _ hw'
      obtain ⟨nq, rfl⟩ := hw'
      by_cases hfull : r.size < 64 - L'.length % 64
      · refine wpList_copy_str rfl _ _ rfl g (8 + L'.length % 64) (64 - L'.length % 64) (64 - L'.length % 64) r rfl rfl 188 _ 73 r.size (Nat.min_eq_left (by omega)) (HH.out.drewN nq) (by omega) _ (fun i _ => sumv_lay n _ _ _ _ _ _ (by omega) i) ?_
        have h1 := (HH.out.drewN nq).row _ (sumv n (stateOf L') (lay bl (L'.length % 64) r.data.toList r.size) L'.length) rfl
        have h2 := cell_st h1
        have h3 := h1.frozen 72
        have hd2 : (((L'.length : Int) + (r.size : Int)) % 64 == 0) = false := by rw [beq_eq_false_iff_ne]; omega
        have H1 := hide h1
        clear h1
        go_wp2
        go_roundw
        case rel =>
          refine ⟨L' ++ r.data.toList, ByteArray.empty, by rw [he]; exact List.append_nil _, rfl, ?_, (below_setRow (below_drewN hb nq) (Nat.le_refl _) _).setCell (by simp) _⟩
          have := sum_less n _ g bl L' r.data.toList (by rw [str_len]; exact hfull) HB.out (by rw [str_len]; exact H1.out)
          rw [str_len] at this
          exact this
        case measure => simpa using hr
      · obtain ⟨k, hk⟩ : ∃ k, 64 - L'.length % 64 = k := ⟨_, rfl⟩
        refine wpList_copy_str rfl _ _ rfl g (8 + L'.length % 64) (64 - L'.length % 64) (64 - L'.length % 64) r rfl rfl 188 _ 73 k (by rw [hk]; exact Nat.min_eq_right (by omega)) (HH.out.drewN nq) (by omega) _ (fun i _ => sumv_lay n _ _ _ _ _ _ (by omega) i) ?_
        have h1 := (HH.out.drewN nq).row _ (sumv n (stateOf L') (lay bl (L'.length % 64) r.data.toList k) L'.length) rfl
        have h2 := cell_st h1
        have h3 := h1.frozen 72
        have hk0 : (0 : Int) ≤ (k : Int) := by omega
        have hk1 : (k : Int) ≤ (r.size : Int) := by omega
        have hd2 : (((L'.length : Int) + (k : Int)) % 64 == 0) = true := by rw [beq_iff_eq]; omega
        have H1 := hide h1
        clear h1
        go_wp2
        have hB2 : Below g w (((wr.drewN nq).setRow g (tabv (sumv n (stateOf L') (lay bl (L'.length % 64) r.data.toList k) L'.length) 73)).setCell ⟨g, 72, none⟩ (.int .u64 ((L'.length : Int) + (k : Int)))) := (below_setRow (below_drewN hb nq) (Nat.le_refl _) _).setCell (by simp) _
        have hH2 : Has (((wr.drewN nq).setRow g (tabv (sumv n (stateOf L') (lay bl (L'.length % 64) r.data.toList k) L'.length) 73)).setCell ⟨g, 72, none⟩ (.int .u64 ((L'.length : Int) + (k : Int)))) g 188 (sumv n (stateOf L') (lay bl (L'.length % 64) r.data.toList k) (L'.length + k)) 73 := by
          have := (H1.out.set 72 (.int .u64 ((L'.length + k : Nat) : Int))).congr _ (fun i hi => sumv_n n _ _ _ (L'.length + k) i hi)
          rw [Int.natCast_add] at this
          exact this
        have hG2 := hG.below hB2 hg2
        clear h2 h3 H1
        generalize World.setCell _ _ _ = W at hB2 hH2 hG2 ⊢
        have hall : ∀ p : Prop, (∀ w', Below W.heap.size W w' → p) = p := fun p => propext ⟨fun h => h W (Below.refl _ _), fun h _ _ => h⟩
        have HX := hide hH2
        clear hH2
        refine wp_region_quiet_tail (fun w' => Below W.heap.size W w') 12 (by kernel_rfl) (by kernel_rfl) ((Below.refl _ _).drew) ?_
        simp only [List.take_succ_cons, List.take_zero, List.drop_succ_cons, List.drop_zero]
        iterate 4 (go_big_quiet_step (fail))
        go_big_quiet_want
        refine quiet_value (fun w' hw' => run_load_part w' 159 _ rfl g 0 rfl 188 _ 73 8 _ (HX.out.below hw' HX.out.lt) (by omega) Tryz.underlying159 rfl info43 (wv n (stateOf L')) (fun i hi => by rw [Nat.zero_add]; unfold sumv wv; rw [if_pos hi])) ?_
        simp only [Act.put, List.setIfInBounds_toArray, List.set_cons_succ, List.set_cons_zero]
        go_big_quiet_on
        iterate 3 (go_big_quiet_step (fail))
        go_big_quiet_want
        refine quiet_value (fun w' hw' => run_load_part w' 186 _ rfl g 8 rfl 188 _ 73 64 _ (HX.out.below hw' HX.out.lt) (by omega) Tryz.underlying186 rfl info44 (bv (lay bl (L'.length % 64) r.data.toList k)) (fun i hi => by unfold sumv bv; rw [if_neg (by omega), if_pos (by omega), Nat.add_sub_cancel_left])) ?_
        simp only [Act.put, List.setIfInBounds_toArray, List.set_cons_succ, List.set_cons_zero]
        go_big_quiet_on
        go_big_quiet_want
        refine quiet_enter (f := 150) (args := #[.agg (tabv (wv n (stateOf L')) 8), .agg (tabv (bv (lay bl (L'.length % 64) r.data.toList k)) 64)]) (v := .agg (tabv (wv n (turn (stateOf L') (lay bl (L'.length % 64) r.data.toList k))) 8)) (fun w' hw' => ?_) (fun w' hw' => (turned_any n _ _ w' (hG2.below hw' hG2.2.2)).mono fun e w2 ⟨h1, h2⟩ => ⟨h1, hw'.trans (h2.mono hw'.size)⟩) ?_
        · first | rfl | (go_simp; done) | (go_simp; rfl)
        simp only [Act.put, List.setIfInBounds_toArray, List.set_cons_succ, List.set_cons_zero]
        go_big_quiet_on
        iterate 2 (go_big_quiet_step (fail))
        refine wpQuiet_nil ?_
        intro w' hw'
        have hX2 := HX.out.below hw' HX.out.lt
        refine wpList_store_part rfl 159 _ _ rfl rfl g 0 (wv n (turn (stateOf L') (lay bl (L'.length % 64) r.data.toList k))) 8 rfl rfl 188 _ 73 hX2 (by omega) info43 (fun _ _ => rfl) _ (fun i hi => sumv_st n _ _ _ _ i) ?_
        go_wp2
        go_roundw
        case rel =>
          have hkl : k ≤ r.data.toList.length := by rw [str_len]; omega
          have hq : (L' ++ r.data.toList.take k).length = 64 * (L'.length / 64 + 1) := by rw [List.length_append, List.length_take, Nat.min_eq_left hkl]; omega
          refine ⟨L' ++ r.data.toList.take k, r.extract k r.size, ?_, rfl, ⟨lay bl (L'.length % 64) r.data.toList k, ?_, fun j hj => ?_⟩, below_setRow (hB2.trans (hw'.mono (Nat.le_of_lt HX.out.lt))) (Nat.le_refl _) _⟩
          · rw [← he, List.append_assoc, extract_list]; congr 1; exact List.take_append_drop _ _
          · have e1 := stateOf_full L' (r.data.toList.take k) (lay bl (L'.length % 64) r.data.toList k) (L'.length / 64) rfl hq (fun i hi => lay_at bl L' r.data.toList k hkl HB.out i (by omega))
            rw [e1, hq, show 64 * (L'.length / 64 + 1) = L'.length + k by omega]
            exact hX2.row _ _ rfl
          · rw [hq] at hj; omega
        case measure => show (r.extract k r.size).size < r.size; rw [ByteArray.size_extract]; omega
    · have hd : decide ((r.size : Int) > 0) = false := decide_eq_false (by omega)
      have e0 : r.data.toList = [] := by
        have h0 : r.size = 0 := Nat.eq_zero_of_not_pos hr
        rw [← List.length_eq_zero_iff, str_len]; exact h0
      rw [e0, List.append_nil] at he
      have HE := hide he
      clear he e0
      go_wp2
      go_end0
      exact ⟨rfl, HE.out ▸ hS, hb⟩
end Go.Proofs.YtlohfoggcdaeiaaGreat
/-
  pad, told, Sum.
-/
namespace Go.Proofs.YtlohfoggcdaeiaaGreat
set_option maxRecDepth 20000
open Go.RowKit S
def strOf (f : Nat → UInt8) (m : Nat) : ByteArray := ⟨((List.range m).map f).toArray⟩
theorem strOf_size (f : Nat → UInt8) (m : Nat) : (strOf f m).size = m := by simp [strOf, ByteArray.size]
theorem strOf_list (f : Nat → UInt8) (m : Nat) : (strOf f m).data.toList = (List.range m).map f := by simp [strOf]
/-- string(b[:]), b in a block. -/
theorem run_conv {w : World} {g : Nat} {t : TypeId} {f : Nat → UInt8} {M : Nat} (h : Has w g t (bv f) M) (m cap : Nat) (hm : m ≤ M) : (convert 77 9 (.slice (some ⟨g, 0, none⟩) m cap)).run Tryz.prog w = .ok (.string (strOf f m)) w := by
  have hr := run_convert_bytes_arg w 77 5 Tryz.underlying77 Tryz.underlying5 g 0 m cap ((List.range m).map fun i => ((f i).toNat : Int)) (by simp) (fun i hi => by
    rw [Nat.zero_add, h.cell i (by omega)]
    simp [hi, bv]) 9 Tryz.underlying9
  have e : strOfNums ((List.range m).map fun i => ((f i).toNat : Int)) = strOf f m := by
    simp only [strOfNums, List.map_map, Function.comp_def, Int.toNat_natCast]
    simp [strOf]
  rw [hr, e]
/-- How far the count is off 56 modulo 64. -/
def left56 (g : Nat) (w : World) : Nat := match w.cell? ⟨g, 72, none⟩ with | some (.int _ c) => (120 - c.toNat % 64) % 64 | _ => 0
theorem left56_of [Inhabited S.Tbl] {n : Num} {w : World} {g : Nat} {L : List UInt8} (h : SumIs n w g L) : left56 g w = (120 - L.length % 64) % 64 := by
  obtain ⟨bl, h1, _⟩ := h
  unfold left56; rw [cell_st h1]; simp
def lenUp (m k : Nat) : Nat → UInt8 := fun i => if i < k then lenByte m i else 0
theorem lenUp_next (m k : Nat) : upd (lenUp m k) k (lenByte m k) = lenUp m (k + 1) := by
  funext i; unfold upd lenUp
  by_cases e : i = k
  · subst e; rw [if_pos rfl, if_pos (by omega)]
  · rw [if_neg e]; by_cases h : i < k
    · rw [if_pos h, if_pos (by omega)]
    · rw [if_neg h, if_neg (by omega)]
theorem SumIs.other [Inhabited S.Tbl] {n : Num} {w : World} {g : Nat} {L : List UInt8} (h : SumIs n w g L) (p : Addr) (v : Value) (hp : g ≠ p.block) : SumIs n (w.setCell p v) g L := by
  obtain ⟨bl, h1, h2⟩ := h
  exact ⟨bl, h1.other p v hp, h2⟩
theorem lenByte_num (m k : Nat) (hk : k < 8) : (m : Int) * 8 / 2 ^ (56 - 8 * k) % 256 = ((lenByte m k).toNat : Int) := by
  unfold lenByte
  rw [UInt8.toNat_ofNat', show 8 * (7 - k) = 56 - 8 * k by omega, Nat.mul_comm 8 m]
  simp
set_option maxHeartbeats 800000 in
theorem pad_any [Inhabited S.Tbl] (n : Num) (g : Nat) (L : List UInt8) (w : World) (hG : Glob n w) (hg2 : 2 ≤ g) (hS : SumIs n w g L) (hl : L.length < 1152921504606846976) :
    Calls Tryz.prog 145 #[.pointer (some ⟨g, 0, none⟩)] w fun e w' => e = .returned (.tuple #[]) ∧ SumIs n w' g (padded L) ∧ Below g w w' := by
  have cn : w.cell? ⟨g, 72, none⟩ = some (.int .u64 (L.length : Int)) := by obtain ⟨bl, h1, _⟩ := hS; exact cell_st h1
  go_enter Tryz.func145, Tryz.ntmps145
  go_wp2_with fail
  refine (take_any n g L _ _ hG hg2 hS (by simp [ByteArray.size]; omega)).mono ?_
  rintro e w1 ⟨rfl, hS1, hb1⟩
  go_wp2
  go_loopw [] (fun wr => ∃ z : Nat, z ≤ zeros L.length ∧ SumIs n wr g (L ++ [0x80] ++ List.replicate z 0) ∧ Below g w wr) (fun wr => left56 g wr)
  case atStart => exact ⟨0, Nat.zero_le _, by rw [List.replicate_zero, List.append_nil]; exact hS1, hb1⟩
  case round =>
    clear hS hS1 hb1 cn
    obtain ⟨z, hz, hS, hb⟩ := hrel
    have cn : wr.cell? ⟨g, 72, none⟩ = some (.int .u64 ((L.length : Int) + 1 + z)) := by
      obtain ⟨bl, h1, _⟩ := hS
      rw [cell_st h1]; simp; omega
    have hzz : zeros L.length = (119 - L.length % 64) % 64 := rfl
    by_cases hlt : z < zeros L.length
    · have hd : (((L.length : Int) + 1 + z) % 64 != 56) = true := by rw [bne_iff_ne]; omega
      go_wp2_with fail
      refine (take_any n g _ _ _ (hG.below hb hg2) hg2 hS (by simp [ByteArray.size]; omega)).mono ?_
      rintro e w2 ⟨rfl, hS2, hb2⟩
      go_wp2
      have hS3 : SumIs n w2 g (L ++ [0x80] ++ List.replicate (z + 1) 0) := by
        rw [List.replicate_succ', ← List.append_assoc]; exact hS2
      go_roundw
      case rel => exact ⟨z + 1, by omega, hS3, hb.trans hb2⟩
      case measure =>
        rw [left56_of hS, left56_of hS3]
        simp
        omega
    · have hd : (((L.length : Int) + 1 + z) % 64 != 56) = false := by rw [bne_eq_false_iff_eq]; omega
      have hzl : z = zeros L.length := by omega
      clear hzz hz hlt
      subst hzl
      go_wp2
      generalize hW : World.alloc wr _ = w3
      have h0 : Has w3 wr.heap.size 193 (bv (lenUp L.length 0)) 8 := by
        rw [← hW]
        exact (Has.new wr 193 (fun _ => .int .u8 0) 8 _ rfl).congr _ (fun i _ => by unfold bv lenUp; rw [if_neg (by omega)]; rfl)
      have hgl : g < wr.heap.size := by obtain ⟨bl, h1, _⟩ := hS; exact h1.lt
      have hb3 : Below wr.heap.size wr w3 := by rw [← hW]; exact (Below.refl _ _).alloc (Nat.le_refl _) _
      have hS3 := hS.below hb3 hgl
      have hb4 := hb.trans (hb3.mono (Nat.le_of_lt hgl))
      clear hW hS hb cn hd hb3
      generalize wr.heap.size = gb at *
      go_loopw [20] (fun i wq => ∃ k : Nat, k ≤ 8 ∧ i = .int .i64 k ∧ Has wq gb 193 (bv (lenUp L.length k)) 8 ∧ SumIs n wq g (L ++ [0x80] ++ List.replicate (zeros L.length) 0) ∧ Below g w wq) (fun i _ => 8 - (intOf i).toNat)
      case atStart => exact ⟨0, by omega, rfl, h0, hS3, hb4⟩
      case round =>
        clear h0 hS3 hb4
        obtain ⟨k, hk, rfl, h0, hS3, hb4⟩ := hrel
        by_cases hlt : k < 8
        · have cw := h0.cell k hlt
          have cf := h0.frozen k
          have hd : decide ((k : Int) < 8) = true := by simp; omega
          simp only [bv] at cw
          go_wp2
          go_roundw
          case rel =>
            refine ⟨k + 1, by omega, by go_num, ?_, hS3.other _ _ (by simp; omega), hb4.setCell (by simp; omega) _⟩
            have := h0.set k (.int .u8 ((lenByte L.length k).toNat : Int))
            rw [bv_upd, lenUp_next] at this
            rw [lenByte_num L.length k hlt]
            exact this
          case measure => simp [intOf]; omega
        · have hk8 : k = 8 := by omega
          subst hk8
          have hcv := run_conv h0 8 8 (Nat.le_refl _)
          go_wp2_with fail
          refine (take_any n g _ _ _ (hG.below hb4 hg2) hg2 hS3 ?_).mono ?_
          · have := Nat.mod_lt (119 - L.length % 64) (show 0 < 64 by omega)
            rw [strOf_size]; simp [zeros]; omega
          rintro e w2 ⟨rfl, hS2, hb2⟩
          go_wp2
          go_end0
          refine ⟨rfl, ?_, hb4.trans hb2⟩
          rw [strOf_list] at hS2
          exact hS2
end Go.Proofs.YtlohfoggcdaeiaaGreat
/-
  told, Sum.
-/
namespace Go.Proofs.YtlohfoggcdaeiaaGreat
set_option maxRecDepth 20000
open Go.RowKit S
def toldUp (st : Nat → BitVec 32) (k : Nat) : Nat → UInt8 := fun i => if i < k then told st i else 0
theorem toldUp_next (st : Nat → BitVec 32) (k : Nat) : upd (toldUp st k) k (told st k) = toldUp st (k + 1) := by
  funext i; unfold upd toldUp
  by_cases e : i = k
  · subst e; rw [if_pos rfl, if_pos (by omega)]
  · rw [if_neg e]; by_cases h : i < k
    · rw [if_pos h, if_pos (by omega)]
    · rw [if_neg h, if_neg (by omega)]
theorem told0 (n : Num) (st : Nat → BitVec 32) (k : Nat) : n.u (st k) / 16777216 % 256 = ((told st (4 * k)).toNat : Int) := by
  unfold told; rw [n.eq, UInt8.toNat_ofNat', show 4 * k / 4 = k by omega, show 4 * k % 4 = 0 by omega]; simp
theorem told1 (n : Num) (st : Nat → BitVec 32) (k : Nat) : n.u (st k) / 65536 % 256 = ((told st (4 * k + 1)).toNat : Int) := by
  unfold told; rw [n.eq, UInt8.toNat_ofNat', show (4 * k + 1) / 4 = k by omega, show (4 * k + 1) % 4 = 1 by omega]; simp
theorem told2 (n : Num) (st : Nat → BitVec 32) (k : Nat) : n.u (st k) / 256 % 256 = ((told st (4 * k + 2)).toNat : Int) := by
  unfold told; rw [n.eq, UInt8.toNat_ofNat', show (4 * k + 2) / 4 = k by omega, show (4 * k + 2) % 4 = 2 by omega]; simp
theorem told3 (n : Num) (st : Nat → BitVec 32) (k : Nat) : n.u (st k) % 256 = ((told st (4 * k + 3)).toNat : Int) := by
  unfold told; rw [n.eq, UInt8.toNat_ofNat', show (4 * k + 3) / 4 = k by omega, show (4 * k + 3) % 4 = 3 by omega]; simp
set_option maxHeartbeats 800000 in
theorem told_any (n : Num) (g : Nat) (st : Nat → BitVec 32) (bl : Nat → UInt8) (c : Nat) (w : World) (hS : Has w g 188 (sumv n st bl c) 73) :
    Calls Tryz.prog 146 #[.pointer (some ⟨g, 0, none⟩)] w fun e w' => e = .returned (.agg (tabv (bv (told st)) 32)) ∧ Below w.heap.size w w' := by
  have h1 : Has ((w.alloc (.cells (tabv (fun _ => .int .u8 0) 32) 25)).alloc (.cells (tabv (fun _ => .int .u8 0) 32) 25)) g 188 (sumv n st bl c) 73 := (hS.old _).old _
  have HH := hide h1
  clear h1
  go_enter Tryz.func146, Tryz.ntmps146
  go_wp2_with (refine wpList_load_part rfl 159 _ rfl g 0 rfl 188 _ 73 8 _ HH.out (by omega) Tryz.underlying159 rfl info43 (wv n st) (fun i hi => by rw [Nat.zero_add]; unfold sumv wv; rw [if_pos hi]) ?_)
  generalize hW : World.alloc (World.alloc w _) _ = w3
  have g0 : Has w3 w.heap.size 25 (fun _ => .int .u8 0) 32 := by rw [← hW]; exact (Has.new w 25 (fun _ => .int .u8 0) 32 _ rfl).old _
  have g1 : Has w3 (w.heap.size + 1) 25 (bv (toldUp st 0)) 32 := by
    rw [← hW]
    have := (Has.new (w.alloc (.cells (tabv (fun _ => .int .u8 0) 32) 25)) 25 (fun _ => .int .u8 0) 32 _ rfl).congr (bv (toldUp st 0)) (fun i _ => by unfold bv toldUp; rw [if_neg (by omega)]; rfl)
    rw [size_alloc] at this
    exact this
  have gb : Below w.heap.size w w3 := by rw [← hW]; exact ((Below.refl w.heap.size w).alloc (Nat.le_refl _) _).alloc (by simp) _
  clear hW HH hS
  go_loopw [10] (fun i wr => ∃ k : Nat, k ≤ 8 ∧ i = .int .i64 k ∧ Has wr w.heap.size 25 (fun _ => .int .u8 0) 32 ∧ Has wr (w.heap.size + 1) 25 (bv (toldUp st (4 * k))) 32 ∧ Below w.heap.size w wr) (fun i _ => 8 - (intOf i).toNat)
  case atStart => exact ⟨0, by omega, rfl, g0, g1, gb⟩
  case round =>
    clear g0 g1 gb
    obtain ⟨k, hk, rfl, g0, g1, gb⟩ := hrel
    by_cases hlt : k < 8
    · have c0 := g1.cell (4 * k) (by omega)
      have c1 := g1.cell (4 * k + 1) (by omega)
      have c2 := g1.cell (4 * k + 2) (by omega)
      have c3 := g1.cell (4 * k + 3) (by omega)
      have f0 := g1.frozen (4 * k)
      have f1 := g1.frozen (4 * k + 1)
      have f2 := g1.frozen (4 * k + 2)
      have f3 := g1.frozen (4 * k + 3)
      have ht := idx43 (wv n st) wr k hlt
      simp only [wv] at ht
      have hd : decide ((k : Int) < 8) = true := by simp; omega
      go_wp2
      go_roundw
      case rel =>
        refine ⟨k + 1, by omega, by go_num, (((g0.other _ _ (by simp)).other _ _ (by simp)).other _ _ (by simp)).other _ _ (by simp), ?_, (((gb.setCell (by simp) _).setCell (by simp) _).setCell (by simp) _).setCell (by simp) _⟩
        have := (((g1.set (4 * k) (.int .u8 ((told st (4 * k)).toNat : Int))).set (4 * k + 1) (.int .u8 ((told st (4 * k + 1)).toNat : Int))).set (4 * k + 2) (.int .u8 ((told st (4 * k + 2)).toNat : Int))).set (4 * k + 3) (.int .u8 ((told st (4 * k + 3)).toNat : Int))
        rw [bv_upd, bv_upd, bv_upd, bv_upd, toldUp_next, toldUp_next, toldUp_next, toldUp_next] at this
        rw [told0, told1, told2, told3]
        exact this
      case measure => simp [intOf]; omega
    · have hk8 : k = 8 := by omega
      subst hk8
      go_wp2_with (first | refine wpList_load_part rfl 25 _ rfl (w.heap.size + 1) 0 rfl 25 _ 32 32 _ g1 (by omega) Tryz.underlying25 rfl info26 (bv (told st)) (fun i hi => by rw [Nat.zero_add]; unfold bv toldUp; rw [if_pos (by omega)]) ?_ | refine wpList_store_part rfl 25 _ _ rfl rfl w.heap.size 0 (bv (told st)) 32 rfl rfl 25 _ 32 g0 (by omega) info26 (fun _ _ => rfl) (bv (told st)) (fun i hi => by unfold splice; rw [if_pos (by omega), Nat.sub_zero]) ?_)
      exact bodyPost_ret (results_cell_row rfl _ _ w.heap.size 25 _ (0, 0) _ rfl (g0.row _ _ rfl) Tryz.underlying25 rfl (by rw [tabv_size]; exact info26)) rfl ⟨rfl, below_setRow gb (Nat.le_refl _) _⟩
/-- a: where the texts ss stand. -/
def Strs (w : World) (a : Option Addr) (ss : List ByteArray) : Prop := ss = [] ∨ ∃ b o, a = some ⟨b, o, none⟩ ∧ b < w.heap.size ∧ ∀ i (h : i < ss.length), w.cell? ⟨b, o + i, none⟩ = some (.string ss[i])
theorem Strs.below {w w' : World} {a : Option Addr} {ss : List ByteArray} (h : Strs w a ss) (hb : Below w.heap.size w w') : Strs w' a ss := by
  rcases h with h | ⟨b, o, rfl, h1, h2⟩
  · exact .inl h
  · exact .inr ⟨b, o, rfl, Nat.lt_of_lt_of_le h1 hb.size, fun i hi => by rw [World.cell?_of_block (w := w) (hb.block b h1)]; exact h2 i hi⟩
/-- The texts one behind the other. -/
def flat (ss : List ByteArray) : List UInt8 := (ss.map fun s => s.data.toList).flatten
theorem flat_take (ss : List ByteArray) (k : Nat) (h : k < ss.length) : flat (ss.take (k + 1)) = flat (ss.take k) ++ ss[k].data.toList := by
  unfold flat; rw [List.take_succ_eq_append_getElem h, List.map_append, List.flatten_append]; simp
theorem flat_le (ss : List ByteArray) (k : Nat) : (flat (ss.take k)).length ≤ (flat ss).length := by
  have : flat ss = flat (ss.take k) ++ flat (ss.drop k) := by unfold flat; rw [← List.flatten_append, ← List.map_append, List.take_append_drop]
  rw [this, List.length_append]; omega
theorem padded_state [Inhabited S.Tbl] (L : List UInt8) : told (stateOf (padded L)) = sha L := rfl
theorem run_loadVar_cells (w : World) (g : Nat) (f : Nat → Value) (h : ∀ i, i < 8 → w.cell? ⟨g, i, none⟩ = some (f i)) : (loadVar 159 ⟨g, 0, none⟩).run Tryz.prog w = .ok (.agg (tabv f 8)) w := by
  have hl : (loadCells ⟨g, 0, none⟩ (tabv f 8).toList.length).run Tryz.prog w = .ok (tabv f 8).toList.toArray w :=
    run_loadCells_list (P := Tryz.prog) w ⟨g, 0, none⟩ (tabv f 8).toList (fun j v hv => by
      have hj : j < 8 := by
        have := (List.getElem?_eq_some_iff.1 hv).1
        simpa [tabv] using this
      have hadd : (⟨g, 0, none⟩ : Addr).add j = ⟨g, j, none⟩ := by unfold Addr.add; split <;> simp_all
      rw [hadd, h j hj]
      rw [Array.getElem?_toList, tabv_get _ _ _ hj] at hv
      exact hv)
  have hi := info43
  cases hq : Tryz.prog.info? 159 with
  | none => simp [hq] at hi
  | some i =>
    have hs : i.size = 8 := by simpa [hq] using hi
    have hagg : (isAgg 159).run Tryz.prog w = .ok true w := by
      unfold isAgg
      rw [Sem.run_bind, run_underlying Tryz.underlying159 w]
      rfl
    simp only [Array.length_toList, Array.toArray_toList, tabv_size] at hl
    simp [loadVar, Sem.run_bind, hagg, sizeOf, typeInfo, hq, hs, hl]
theorem wpList_load_cells {ops : Array Oper} {rest : List Oper} {o : Oper} {a : Act} {w : World} {Q : Exit → Act → World → Prop} (hgd : o.guard = none) (x : Operand) (ho : o.op = .load 159 x)
    (g : Nat) (hx : a.eval x = .pointer (some ⟨g, 0, none⟩)) (f : Nat → Value) (hc : ∀ i, i < 8 → w.cell? ⟨g, i, none⟩ = some (f i))
    (h : wpList Tryz.prog ops Q rest (a.put o.dst (.agg (tabv f 8))) w) : wpList Tryz.prog ops Q (o :: rest) a w :=
  wpList_plain hgd fun _ hK => by
    unfold Oper.wp execOp
    simp only [ho, hx, Instr.loadAt, Instr.sureAddr, Sem.run_bind, Sem.run_pure, Result.andThen_ok, run_loadVar_cells w g f hc]
    exact hK _ _ h
theorem built47 (n : Num) (f : Nat → BitVec 32) : Tryz.prog.built 188 [(0, .agg (tabv (wv n f) 8))] = some (tabv (sumv n f (fun _ => 0) 0) 73) := by kernel_rfl
theorem wpList_build47 (n : Num) (f : Nat → BitVec 32) {ops : Array Oper} {rest : List Oper} {o : Oper} {a : Act} {w : World} {Q : Exit → Act → World → Prop} (hgd : o.guard = none) (x : Operand) (ho : o.op = .build 188 #[(0, x)])
    (hx : a.eval x = .agg (tabv (wv n f) 8)) (h : wpList Tryz.prog ops Q rest (a.put o.dst (.agg (tabv (sumv n f (fun _ => 0) 0) 73))) w) : wpList Tryz.prog ops Q (o :: rest) a w := by
  have e : (Array.map (fun p : Nat × Operand => (p.1, a.eval p.2)) #[(0, x)]).toList = [(0, .agg (tabv (wv n f) 8))] := by simp [hx]
  refine wpList_build hgd 188 #[(0, x)] ho ?_ ?_
  · rw [e, built47]; rfl
  · rw [e, built47]; exact h
def zer47 : Nat → Value := fun i => if i < 8 then .int .u32 0 else if i < 72 then .int .u8 0 else .int .u64 0
theorem zero47 (w : World) : (zeroValue 188).run Tryz.prog w = .ok (.agg (tabv zer47 73)) w := by
  have h : (Tryz.prog.info? 188).bind (·.zero) = some (.agg (tabv zer47 73)) := by kernel_rfl
  cases hq : Tryz.prog.info? 188 with
  | none => simp [hq] at h
  | some i => simp [hq] at h; simp [zeroValue, typeInfo, hq, h]
theorem info47 : (Tryz.prog.info? 188).map (·.size) = some 73 := by kernel_rfl
set_option maxHeartbeats 800000 in
theorem sum_any [Inhabited S.Tbl] (n : Num) (a : Option Addr) (cap : Nat) (ss : List ByteArray) (w : World) (hG : Glob n w) (hs : Strs w a ss) (hl : (flat ss).length < 1152921504606846976) (hn : ss.length < 1152921504606846976) :
    Calls Tryz.prog 139 #[.slice a ss.length cap] w fun e w' => e = .returned (.agg (tabv (bv (sha (flat ss))) 32)) ∧ Below w.heap.size w w' := by
  have hG1 : Glob n (w.alloc (.cells (tabv (fun _ => .int .u8 0) 32) 25)) := hG.below ((Below.refl w.heap.size w).alloc (Nat.le_refl _) _) hG.2.2
  have hz := zero47
  have hA : Has ((w.alloc (.cells (tabv (fun _ => .int .u8 0) 32) 25)).alloc (.cells (tabv zer47 73) 188)) (w.heap.size + 1) 188 zer47 73 := by
    have := Has.new (w.alloc (.cells (tabv (fun _ => .int .u8 0) 32) 25)) 188 zer47 73 _ rfl
    rw [size_alloc] at this
    exact this
  have HA := hide hA
  clear hA
  go_enter Tryz.func139, Tryz.ntmps139
  go_wp2_with (first | refine wpList_store_part rfl 188 _ _ rfl rfl (w.heap.size + 1) 0 (sumv n first (fun _ => 0) 0) 73 rfl rfl 188 _ 73 HA.out (by omega) info47 (fun i _ => by unfold sumv; split; rfl; split <;> rfl) (sumv n first (fun _ => 0) 0) (fun i hi => by unfold splice; rw [if_pos (by omega), Nat.sub_zero]) ?_ | refine wpList_load_cells rfl _ rfl 0 rfl (wv n first) hG1.2.1 ?_ | refine wpList_build47 n first rfl _ rfl rfl ?_)
  generalize hW : World.setRow (World.alloc (World.alloc w _) _) _ _ = w3
  have g0 : Has w3 w.heap.size 25 (fun _ => .int .u8 0) 32 := by rw [← hW]; exact ((Has.new w 25 (fun _ => .int .u8 0) 32 _ rfl).old _).row_other _ _ (by omega)
  have g1 : SumIs n w3 (w.heap.size + 1) (flat (ss.take 0)) := by
    rw [show flat (ss.take 0) = [] by rw [List.take_zero]; rfl]
    refine ⟨fun _ => 0, ?_, fun j hj => absurd hj (by simp)⟩
    rw [← hW]; exact HA.out.row _ _ rfl
  have gb : Below w.heap.size w w3 := by rw [← hW]; exact below_setRow (((Below.refl w.heap.size w).alloc (Nat.le_refl _) _).alloc (by simp) _) (by omega) _
  clear hW HA hz hG1
  go_loopw [10] (fun i wr => ∃ k : Nat, k ≤ ss.length ∧ i = .int .i64 k ∧ Has wr w.heap.size 25 (fun _ => .int .u8 0) 32 ∧ SumIs n wr (w.heap.size + 1) (flat (ss.take k)) ∧ Below w.heap.size w wr) (fun i _ => ss.length - (intOf i).toNat)
  case atStart => exact ⟨0, by omega, rfl, g0, g1, gb⟩
  case round =>
    clear g0 g1 gb
    obtain ⟨k, hk, rfl, g0, g1, gb⟩ := hrel
    have h2 := hG.2.2
    by_cases hlt : k < ss.length
    · have hd : decide ((k : Int) < (ss.length : Int)) = true := by simp; omega
      have hle := flat_le ss (k + 1)
      have hft := flat_take ss k hlt
      rw [hft, List.length_append, str_len] at hle
      rcases hs.below gb with h | ⟨b, o, rfl, hb0, hcs⟩
      · rw [h] at hlt; exact absurd hlt (by simp)
      have hck := hcs k hlt
      go_wp2_with fail
      refine (take_any n _ _ _ _ (hG.below gb h2) (by omega) g1 (by omega)).mono ?_
      rintro e w1 ⟨rfl, hS1, hb1⟩
      go_wp2
      go_roundw
      case rel => exact ⟨k + 1, by omega, by go_num, g0.below hb1 (by omega), by rw [hft]; exact hS1, gb.trans (hb1.mono (by omega))⟩
      case measure => simp [intOf]; omega
    · have hkl : k = ss.length := by omega
      subst hkl
      rw [List.take_length] at g1
      have hd : decide ((ss.length : Int) < (ss.length : Int)) = false := by simp
      go_wp2_with fail
      refine (pad_any n _ _ _ (hG.below gb h2) (by omega) g1 (by omega)).mono ?_
      rintro e w1 ⟨rfl, hS1, hb1⟩
      have g0' := g0.below hb1 (by omega)
      have gb1 := gb.trans (hb1.mono (by omega))
      obtain ⟨bl, hS2, _⟩ := hS1
      go_wp2_with fail
      refine (told_any n _ _ _ _ _ hS2).mono ?_
      rintro e w2 ⟨rfl, hb2⟩
      have g0'' := g0'.below hb2 g0'.lt
      have gb2 := gb1.trans (hb2.mono gb1.size)
      go_wp2_with (refine wpList_store_part rfl 25 _ _ rfl rfl w.heap.size 0 (bv (told (stateOf (padded (flat ss))))) 32 rfl rfl 25 _ 32 g0'' (by omega) info26 (fun _ _ => rfl) (bv (sha (flat ss))) (fun i hi => by unfold splice; rw [if_pos (by omega), Nat.sub_zero]; rfl) ?_)
      exact bodyPost_ret (results_cell_row rfl _ _ w.heap.size 25 _ (0, 0) _ rfl (g0''.row _ _ rfl) Tryz.underlying25 rfl (by rw [tabv_size]; exact info26)) rfl ⟨rfl, below_setRow gb2 (Nat.le_refl _) _⟩
end Go.Proofs.YtlohfoggcdaeiaaGreat
