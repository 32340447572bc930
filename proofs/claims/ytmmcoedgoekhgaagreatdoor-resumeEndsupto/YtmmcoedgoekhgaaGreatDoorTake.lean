/-
  take: a text goes through the block's room.
-/
import Derived.Test.YtmmcoedgoekhgaaGreatDoorTurned
namespace Go.Proofs.YtmmcoedgoekhgaaGreatDoor
set_option maxRecDepth 20000
open Go.RowKit S
/-- A sum under way, cell by cell. -/
def sumv (n : Num) (st : Nat → BitVec 32) (bl : Nat → UInt8) (c : Nat) : Nat → Value := fun i => if i < 8 then .int .u32 (n.u (st i)) else if i < 72 then .int .u8 ((bl (i - 8)).toNat : Int) else .int .u64 (c : Int)
/-- Block g of w is a sum that has taken L. -/
def SumIs (n : Num) (w : World) (g : Nat) (L : List UInt8) : Prop := ∃ bl, Has w g 199 (sumv n (stateOf L) bl L.length) 73 ∧ ∀ j, j < L.length % 64 → bl j = byteAt L (64 * (L.length / 64) + j)
theorem SumIs.below {n : Num} {w w' : World} {g b : Nat} {L : List UInt8} (h : SumIs n w g L) (hb : Below b w w') (hg : g < b) : SumIs n w' g L := by
  obtain ⟨bl, h1, h2⟩ := h
  exact ⟨bl, h1.below hb hg, h2⟩
def lay (bl : Nat → UInt8) (o : Nat) (r : List UInt8) (k : Nat) : Nat → UInt8 := fun i => if o ≤ i ∧ i < o + k then byteAt r (i - o) else bl i
theorem sumv_lay (n : Num) (st : Nat → BitVec 32) (bl : Nat → UInt8) (c o k : Nat) (r : List UInt8) (h : o + k ≤ 64) (i : Nat) : splice (sumv n st bl c) (8 + o) (fun i => .int .u8 ((byteAt r i).toNat : Int)) k i = sumv n st (lay bl o r k) c i := by
  unfold splice sumv lay
  by_cases h8 : i < 8
  · rw [if_neg (by omega), if_pos h8, if_pos h8]
  · by_cases h72 : i < 72
    · by_cases hb : 8 + o ≤ i ∧ i < 8 + o + k
      · rw [if_pos hb, if_neg h8, if_pos h72, if_pos (by omega), show i - 8 - o = i - (8 + o) by omega]
      · rw [if_neg hb, if_neg h8, if_pos h72, if_neg h8, if_pos h72, if_neg (by omega)]
    · rw [if_neg (by omega), if_neg h8, if_neg h72, if_neg h8, if_neg h72]
theorem sumv_n (n : Num) (st : Nat → BitVec 32) (bl : Nat → UInt8) (c d : Nat) (i : Nat) (hi : i < 73) : upd (sumv n st bl c) 72 (.int .u64 (d : Int)) i = sumv n st bl d i := by
  unfold upd sumv
  by_cases h : i = 72
  · subst h; simp
  · rw [if_neg h]; by_cases h8 : i < 8
    · rw [if_pos h8, if_pos h8]
    · rw [if_neg h8, if_neg h8, if_pos (by omega), if_pos (by omega)]
theorem sumv_st (n : Num) (st st' : Nat → BitVec 32) (bl : Nat → UInt8) (c i : Nat) : splice (sumv n st bl c) 0 (wv n st') 8 i = sumv n st' bl c i := by
  unfold splice sumv
  by_cases h8 : i < 8
  · rw [if_pos (by omega), if_pos h8, Nat.sub_zero]; rfl
  · rw [if_neg (by omega), if_neg h8, if_neg h8]
theorem str_len (r : ByteArray) : r.data.toList.length = r.size := by rw [Array.length_toList]; rfl
/-- copy(dst, r), dst in a block. -/
theorem run_copy_str (w : World) (ty : TypeId) (g o dLen dCap : Nat) (r : ByteArray) (t : TypeId) (f : Nat → Value) (M m : Nat) (hm : Nat.min r.size dLen = m) (hg : Has w g t f M) (hfit : o + m ≤ M) :
    (Builtin.copy_ #[150, 9] ty #[.slice (some ⟨g, o, none⟩) dLen dCap, .string r]).run Tryz.prog w =
      .ok (goInt m) (w.setRow g (tabv (splice f o (fun i => .int .u8 ((byteAt r.data.toList i).toNat : Int)) m) M)) := by
  have hmr : m ≤ r.size := by rw [← hm]; exact Nat.min_le_left _ _
  have e1 : List.take m (List.map (fun b : UInt8 => Value.int IntKind.u8 (b.toNat : Int)) r.data.toList) = (tabv (fun i => .int .u8 ((byteAt r.data.toList i).toNat : Int)) m).toList := by
    rw [show (tabv (fun i => Value.int .u8 ((byteAt r.data.toList i).toNat : Int)) m).toList = (List.range m).map (fun i => Value.int .u8 ((byteAt r.data.toList i).toNat : Int)) from by simp [tabv]]
    apply List.ext_getElem?
    intro i
    rw [List.getElem?_map]
    rcases Nat.lt_or_ge i m with h | h
    · rw [List.getElem?_take_of_lt h, List.getElem?_map, List.getElem?_range h]
      have hi : i < r.data.toList.length := by rw [str_len]; omega
      rw [List.getElem?_eq_getElem hi]
      simp only [Option.map_some, byteAt, List.getD_eq_getElem?_getD, List.getElem?_eq_getElem hi, Option.getD_some]
    · rw [List.getElem?_eq_none (l := List.take m _) (by rw [List.length_take]; omega), List.getElem?_eq_none (l := List.range m) (by rw [List.length_range]; omega)]
      rfl
  have hst := run_storeCells_at Tryz.prog g o t (tabv (fun i => .int .u8 ((byteAt r.data.toList i).toNat : Int)) m).toList 0 (tabv f M) w hg (by simp [tabv]; omega) (fun v hv => by
    simp only [tabv, List.mem_map, List.mem_range] at hv
    obtain ⟨i, _, rfl⟩ := hv
    rfl)
  rw [Nat.add_zero, tabv_splice f _ o _ M hfit] at hst
  have hq := size5 w
  simp [Builtin.copy_, run_underlying Tryz.underlying150, Builtin.lenOf, Builtin.firstCells, hq, hm]
  rw [e1, hst]
  simp [Result.andThen]
theorem wpList_copy_str {ops : Array Oper} {rest : List Oper} {o : Oper} {a : Act} {w : World} {Q : Exit → Act → World → Prop} (hgd : o.guard = none) (d s : Operand)
    (ho : o.op = .call { callee := .builtin .copy, args := #[d, s], argTypes := #[150, 9] }) (g of dLen dCap : Nat) (r : ByteArray) (hd : a.eval d = .slice (some ⟨g, of, none⟩) dLen dCap) (hs : a.eval s = .string r)
    (t : TypeId) (f : Nat → Value) (M m : Nat) (hm : Nat.min r.size dLen = m) (hg : Has w g t f M) (hfit : of + m ≤ M) (f' : Nat → Value) (hf : ∀ i, i < M → splice f of (fun i => .int .u8 ((byteAt r.data.toList i).toNat : Int)) m i = f' i)
    (h : wpList Tryz.prog ops Q rest (a.put o.dst (.int .i64 (m : Int))) (w.setRow g (tabv f' M))) : wpList Tryz.prog ops Q (o :: rest) a w := by
  have hr := run_copy_str w o.type g of dLen dCap r t f M m hm hg hfit
  rw [tabv_congr _ f' M hf] at hr
  refine wpList_plain hgd fun K hK => ?_
  unfold Oper.wp execOp
  simp only [ho, resolve, invoke, builtin, Sem.run_bind, Sem.run_pure, Result.andThen_ok, List.map_toArray, List.map_cons, List.map_nil, hd, hs, hr]
  exact hK _ _ h
theorem lay_at (bl : Nat → UInt8) (L r : List UInt8) (k : Nat) (_hk : k ≤ r.length) (hbl : ∀ j, j < L.length % 64 → bl j = byteAt L (64 * (L.length / 64) + j)) (j : Nat) (hj : j < L.length % 64 + k) : lay bl (L.length % 64) r k j = byteAt (L ++ r.take k) (64 * (L.length / 64) + j) := by
  unfold lay
  by_cases h : L.length % 64 ≤ j ∧ j < L.length % 64 + k
  · rw [if_pos h, byteAt_append_right _ _ _ (by omega), show 64 * (L.length / 64) + j - L.length = j - L.length % 64 by omega]
    unfold byteAt
    rw [List.getD_eq_getElem?_getD, List.getD_eq_getElem?_getD, List.getElem?_take_of_lt (by omega)]
  · rw [if_neg h, hbl j (by omega), byteAt_append _ _ _ (by omega)]
theorem sum_less (n : Num) (w : World) (g : Nat) (bl : Nat → UInt8) (L r : List UInt8) (hl : r.length < 64 - L.length % 64) (hbl : ∀ j, j < L.length % 64 → bl j = byteAt L (64 * (L.length / 64) + j))
    (h : Has w g 199 (sumv n (stateOf L) (lay bl (L.length % 64) r r.length) L.length) 73) : SumIs n (w.setCell ⟨g, 72, none⟩ (.int .u64 ((L.length : Int) + (r.length : Int)))) g (L ++ r) := by
  have e : (L ++ r).length / 64 = L.length / 64 := by rw [List.length_append]; omega
  refine ⟨lay bl (L.length % 64) r r.length, ?_, fun j hj => ?_⟩
  · have := (h.set 72 (.int .u64 ((L.length + r.length : Nat) : Int))).congr _ (fun i hi => sumv_n n _ _ _ (L.length + r.length) i hi)
    rw [stateOf_less L r e, List.length_append]
    rw [Int.natCast_add] at this
    exact this
  · rw [List.length_append] at hj
    rw [e]
    have := lay_at bl L r r.length (Nat.le_refl _) hbl j (by omega)
    rwa [List.take_length] at this
theorem extract_list (r : ByteArray) (k : Nat) : (r.extract k r.size).data.toList = r.data.toList.drop k := by
  rw [ByteArray.data_extract, Array.toList_extract]
  simp only [List.extract_eq_take_drop]
  rw [List.take_of_length_le]
  rw [List.length_drop, str_len]; exact Nat.le_refl _
theorem cell_st {n : Num} {w : World} {g : Nat} {st : Nat → BitVec 32} {bl : Nat → UInt8} {c : Nat} (h : Has w g 199 (sumv n st bl c) 73) : w.cell? ⟨g, 72, none⟩ = some (.int .u64 (c : Int)) := h.cell 72 (by omega)
set_option maxHeartbeats 800000 in
theorem take_any (n : Num) (g : Nat) (L : List UInt8) (s : ByteArray) (w : World) (hG : Glob n w) (hg2 : 2 ≤ g) (hS : SumIs n w g L) (hl : L.length + s.size < 9223372036854775808) :
    Calls Tryz.prog 161 #[.pointer (some ⟨g, 0, none⟩), .string s] w fun e w' => e = .returned (.tuple #[]) ∧ SumIs n w' g (L ++ s.data.toList) ∧ Below g w w' := by
  go_enter Tryz.func161, Tryz.ntmps161
  go_wp2
  go_loopw [1] (fun x wr => ∃ (L' : List UInt8) (r : ByteArray), L' ++ r.data.toList = L ++ s.data.toList ∧ x = .string r ∧ SumIs n wr g L' ∧ Below g w wr) (fun x _ => (match x with | .string r => r.size | _ => 0))
  case atStart => exact ⟨L, s, rfl, rfl, hS, Below.refl _ _⟩
  case round =>
    clear hS
    obtain ⟨L', r, he, rfl, hS, hb⟩ := hrel
    by_cases hr : 0 < r.size
    · obtain ⟨bl, hH, hbl⟩ := hS
      have hlen : L'.length + r.size < 9223372036854775808 := by
        have := congrArg List.length he
        simp only [List.length_append, str_len] at this
        omega
      have hd : decide ((r.size : Int) > 0) = true := by simp; omega
      have cn := cell_st hH
      have hm : L'.length % 64 < 64 := Nat.mod_lt _ (by omega)
      have hsl : ∀ w' : World, (Instr.sliceAt 196 (.pointer (some ⟨g, 8, none⟩)) (some (.int .u64 ((L'.length : Int) % 64))) none none).run Tryz.prog w' = .ok (.slice (some ⟨g, 8 + L'.length % 64, none⟩) (64 - L'.length % 64) (64 - L'.length % 64)) w' := fun w' => by
        have := sl44_l w' g 8 (L'.length % 64) .u64 hm
        rw [show ((L'.length % 64 : Nat) : Int) = (L'.length : Int) % 64 by omega] at this
        exact this
      have HH := hide hH
      have HB := hide hbl
      clear hH hbl
      go_wp2
      refine wp_region_drew_tail 10 (by kernel_rfl) (by kernel_rfl) ?_
      simp only [List.take_succ_cons, List.take_zero, List.drop_succ_cons, List.drop_zero]
      repeat (go_big_quiet_step (fail))
      refine wpQuiet_nil ?_
      intro _ hw'
      obtain ⟨nq, rfl⟩ := hw'
      by_cases hfull : r.size < 64 - L'.length % 64
      · refine wpList_copy_str rfl _ _ rfl g (8 + L'.length % 64) (64 - L'.length % 64) (64 - L'.length % 64) r rfl rfl 199 _ 73 r.size (Nat.min_eq_left (by omega)) (HH.out.drewN nq) (by omega) _ (fun i _ => sumv_lay n _ _ _ _ _ _ (by omega) i) ?_
        have h1 := (HH.out.drewN nq).row _ (sumv n (stateOf L') (lay bl (L'.length % 64) r.data.toList r.size) L'.length) rfl
        have h2 := cell_st h1
        have h3 := h1.frozen 72
        have hd2 : (((L'.length : Int) + (r.size : Int)) % 64 == 0) = false := by rw [beq_eq_false_iff_ne]; omega
        have H1 := hide h1
        clear h1
        go_wp2
        go_roundw
        case rel =>
          refine ⟨L' ++ r.data.toList, ByteArray.empty, by rw [he]; exact List.append_nil _, rfl, ?_, (below_setRow (below_drewN hb nq) (Nat.le_refl _) _).setCell (by simp) _⟩
          have := sum_less n _ g bl L' r.data.toList (by rw [str_len]; exact hfull) HB.out (by rw [str_len]; exact H1.out)
          rw [str_len] at this
          exact this
        case measure => simpa using hr
      · obtain ⟨k, hk⟩ : ∃ k, 64 - L'.length % 64 = k := ⟨_, rfl⟩
        refine wpList_copy_str rfl _ _ rfl g (8 + L'.length % 64) (64 - L'.length % 64) (64 - L'.length % 64) r rfl rfl 199 _ 73 k (by rw [hk]; exact Nat.min_eq_right (by omega)) (HH.out.drewN nq) (by omega) _ (fun i _ => sumv_lay n _ _ _ _ _ _ (by omega) i) ?_
        have h1 := (HH.out.drewN nq).row _ (sumv n (stateOf L') (lay bl (L'.length % 64) r.data.toList k) L'.length) rfl
        have h2 := cell_st h1
        have h3 := h1.frozen 72
        have hk0 : (0 : Int) ≤ (k : Int) := by omega
        have hk1 : (k : Int) ≤ (r.size : Int) := by omega
        have hd2 : (((L'.length : Int) + (k : Int)) % 64 == 0) = true := by rw [beq_iff_eq]; omega
        have H1 := hide h1
        clear h1
        go_wp2
        have hB2 : Below g w (((wr.drewN nq).setRow g (tabv (sumv n (stateOf L') (lay bl (L'.length % 64) r.data.toList k) L'.length) 73)).setCell ⟨g, 72, none⟩ (.int .u64 ((L'.length : Int) + (k : Int)))) := (below_setRow (below_drewN hb nq) (Nat.le_refl _) _).setCell (by simp) _
        have hH2 : Has (((wr.drewN nq).setRow g (tabv (sumv n (stateOf L') (lay bl (L'.length % 64) r.data.toList k) L'.length) 73)).setCell ⟨g, 72, none⟩ (.int .u64 ((L'.length : Int) + (k : Int)))) g 199 (sumv n (stateOf L') (lay bl (L'.length % 64) r.data.toList k) (L'.length + k)) 73 := by
          have := (H1.out.set 72 (.int .u64 ((L'.length + k : Nat) : Int))).congr _ (fun i hi => sumv_n n _ _ _ (L'.length + k) i hi)
          rw [Int.natCast_add] at this
          exact this
        have hG2 := hG.below hB2 hg2
        clear h2 h3 H1
        generalize World.setCell _ _ _ = W at hB2 hH2 hG2 ⊢
        have hall : ∀ p : Prop, (∀ w', Below W.heap.size W w' → p) = p := fun p => propext ⟨fun h => h W (Below.refl _ _), fun h _ _ => h⟩
        have HX := hide hH2
        clear hH2
        refine wp_region_quiet_tail (fun w' => Below W.heap.size W w') 12 (by kernel_rfl) (by kernel_rfl) ((Below.refl _ _).drew) ?_
        simp only [List.take_succ_cons, List.take_zero, List.drop_succ_cons, List.drop_zero]
        iterate 4 (go_big_quiet_step (fail))
        go_big_quiet_want
        refine quiet_value (fun w' hw' => run_load_part w' 195 _ rfl g 0 rfl 199 _ 73 8 _ (HX.out.below hw' HX.out.lt) (by omega) Tryz.underlying195 rfl info43 (wv n (stateOf L')) (fun i hi => by rw [Nat.zero_add]; unfold sumv wv; rw [if_pos hi])) ?_
        simp only [Act.put, List.setIfInBounds_toArray, List.set_cons_succ, List.set_cons_zero]
        go_big_quiet_on
        iterate 3 (go_big_quiet_step (fail))
        go_big_quiet_want
        refine quiet_value (fun w' hw' => run_load_part w' 196 _ rfl g 8 rfl 199 _ 73 64 _ (HX.out.below hw' HX.out.lt) (by omega) Tryz.underlying196 rfl info44 (bv (lay bl (L'.length % 64) r.data.toList k)) (fun i hi => by unfold sumv bv; rw [if_neg (by omega), if_pos (by omega), Nat.add_sub_cancel_left])) ?_
        simp only [Act.put, List.setIfInBounds_toArray, List.set_cons_succ, List.set_cons_zero]
        go_big_quiet_on
        go_big_quiet_want
        refine quiet_enter (f := 194) (args := #[.agg (tabv (wv n (stateOf L')) 8), .agg (tabv (bv (lay bl (L'.length % 64) r.data.toList k)) 64)]) (v := .agg (tabv (wv n (turn (stateOf L') (lay bl (L'.length % 64) r.data.toList k))) 8)) (fun w' hw' => ?_) (fun w' hw' => (turned_any n _ _ w' (hG2.below hw' hG2.2.2)).mono fun e w2 ⟨h1, h2⟩ => ⟨h1, hw'.trans (h2.mono hw'.size)⟩) ?_
        · first | rfl | (go_simp; done) | (go_simp; rfl)
        simp only [Act.put, List.setIfInBounds_toArray, List.set_cons_succ, List.set_cons_zero]
        go_big_quiet_on
        iterate 2 (go_big_quiet_step (fail))
        refine wpQuiet_nil ?_
        intro w' hw'
        have hX2 := HX.out.below hw' HX.out.lt
        refine wpList_store_part rfl 195 _ _ rfl rfl g 0 (wv n (turn (stateOf L') (lay bl (L'.length % 64) r.data.toList k))) 8 rfl rfl 199 _ 73 hX2 (by omega) info43 (fun _ _ => rfl) _ (fun i hi => sumv_st n _ _ _ _ i) ?_
        go_wp2
        go_roundw
        case rel =>
          have hkl : k ≤ r.data.toList.length := by rw [str_len]; omega
          have hq : (L' ++ r.data.toList.take k).length = 64 * (L'.length / 64 + 1) := by rw [List.length_append, List.length_take, Nat.min_eq_left hkl]; omega
          refine ⟨L' ++ r.data.toList.take k, r.extract k r.size, ?_, rfl, ⟨lay bl (L'.length % 64) r.data.toList k, ?_, fun j hj => ?_⟩, below_setRow (hB2.trans (hw'.mono (Nat.le_of_lt HX.out.lt))) (Nat.le_refl _) _⟩
          · rw [← he, List.append_assoc, extract_list]; congr 1; exact List.take_append_drop _ _
          · have e1 := stateOf_full L' (r.data.toList.take k) (lay bl (L'.length % 64) r.data.toList k) (L'.length / 64) rfl hq (fun i hi => lay_at bl L' r.data.toList k hkl HB.out i (by omega))
            rw [e1, hq, show 64 * (L'.length / 64 + 1) = L'.length + k by omega]
            exact hX2.row _ _ rfl
          · rw [hq] at hj; omega
        case measure => show (r.extract k r.size).size < r.size; rw [ByteArray.size_extract]; omega
    · have hd : decide ((r.size : Int) > 0) = false := decide_eq_false (by omega)
      have e0 : r.data.toList = [] := by
        have h0 : r.size = 0 := Nat.eq_zero_of_not_pos hr
        rw [← List.length_eq_zero_iff, str_len]; exact h0
      rw [e0, List.append_nil] at he
      have HE := hide he
      clear he e0
      go_wp2
      go_end0
      exact ⟨rfl, HE.out ▸ hS, hb⟩
end Go.Proofs.YtmmcoedgoekhgaaGreatDoor
