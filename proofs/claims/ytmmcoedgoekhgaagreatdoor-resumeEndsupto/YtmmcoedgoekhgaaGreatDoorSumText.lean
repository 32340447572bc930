import Derived.Test.YtmmcoedgoekhgaaGreatDoorTake
import Derived.Laws.BytesArg
/-
  pad, told, Sum.
-/
namespace Go.Proofs.YtmmcoedgoekhgaaGreatDoor
set_option maxRecDepth 20000
open Go.RowKit S
def strOf (f : Nat → UInt8) (m : Nat) : ByteArray := ⟨((List.range m).map f).toArray⟩
theorem strOf_size (f : Nat → UInt8) (m : Nat) : (strOf f m).size = m := by simp [strOf, ByteArray.size]
theorem strOf_list (f : Nat → UInt8) (m : Nat) : (strOf f m).data.toList = (List.range m).map f := by simp [strOf]
/-- string(b[:]), b in a block. -/
theorem run_conv {w : World} {g : Nat} {t : TypeId} {f : Nat → UInt8} {M : Nat} (h : Has w g t (bv f) M) (m cap : Nat) (hm : m ≤ M) : (convert 150 9 (.slice (some ⟨g, 0, none⟩) m cap)).run Tryz.prog w = .ok (.string (strOf f m)) w := by
  have hr := run_convert_bytes_arg w 150 5 Tryz.underlying150 Tryz.underlying5 g 0 m cap ((List.range m).map fun i => ((f i).toNat : Int)) (by simp) (fun i hi => by
    rw [Nat.zero_add, h.cell i (by omega)]
    simp [hi, bv]) 9 Tryz.underlying9
  have e : strOfNums ((List.range m).map fun i => ((f i).toNat : Int)) = strOf f m := by
    simp only [strOfNums, List.map_map, Function.comp_def, Int.toNat_natCast]
    simp [strOf]
  rw [hr, e]
/-- How far the count is off 56 modulo 64. -/
def left56 (g : Nat) (w : World) : Nat := match w.cell? ⟨g, 72, none⟩ with | some (.int _ c) => (120 - c.toNat % 64) % 64 | _ => 0
theorem left56_of {n : Num} {w : World} {g : Nat} {L : List UInt8} (h : SumIs n w g L) : left56 g w = (120 - L.length % 64) % 64 := by
  obtain ⟨bl, h1, _⟩ := h
  unfold left56; rw [cell_st h1]; simp
def lenUp (m k : Nat) : Nat → UInt8 := fun i => if i < k then lenByte m i else 0
theorem lenUp_next (m k : Nat) : upd (lenUp m k) k (lenByte m k) = lenUp m (k + 1) := by
  funext i; unfold upd lenUp
  by_cases e : i = k
  · subst e; rw [if_pos rfl, if_pos (by omega)]
  · rw [if_neg e]; by_cases h : i < k
    · rw [if_pos h, if_pos (by omega)]
    · rw [if_neg h, if_neg (by omega)]
theorem SumIs.other {n : Num} {w : World} {g : Nat} {L : List UInt8} (h : SumIs n w g L) (p : Addr) (v : Value) (hp : g ≠ p.block) : SumIs n (w.setCell p v) g L := by
  obtain ⟨bl, h1, h2⟩ := h
  exact ⟨bl, h1.other p v hp, h2⟩
theorem lenByte_num (m k : Nat) (hk : k < 8) : (m : Int) * 8 / 2 ^ (56 - 8 * k) % 256 = ((lenByte m k).toNat : Int) := by
  unfold lenByte
  rw [UInt8.toNat_ofNat', show 8 * (7 - k) = 56 - 8 * k by omega, Nat.mul_comm 8 m]
  simp
set_option maxHeartbeats 800000 in
theorem pad_any (n : Num) (g : Nat) (L : List UInt8) (w : World) (hG : Glob n w) (hg2 : 2 ≤ g) (hS : SumIs n w g L) (hl : L.length < 1152921504606846976) :
    Calls Tryz.prog 162 #[.pointer (some ⟨g, 0, none⟩)] w fun e w' => e = .returned (.tuple #[]) ∧ SumIs n w' g (padded L) ∧ Below g w w' := by
  have cn : w.cell? ⟨g, 72, none⟩ = some (.int .u64 (L.length : Int)) := by obtain ⟨bl, h1, _⟩ := hS; exact cell_st h1
  go_enter Tryz.func162, Tryz.ntmps162
  go_wp2_with fail
  refine (take_any n g L _ _ hG hg2 hS (by simp [ByteArray.size]; omega)).mono ?_
  rintro e w1 ⟨rfl, hS1, hb1⟩
  go_wp2
  go_loopw [] (fun wr => ∃ z : Nat, z ≤ zeros L.length ∧ SumIs n wr g (L ++ [0x80] ++ List.replicate z 0) ∧ Below g w wr) (fun wr => left56 g wr)
  case atStart => exact ⟨0, Nat.zero_le _, by rw [List.replicate_zero, List.append_nil]; exact hS1, hb1⟩
  case round =>
    clear hS hS1 hb1 cn
    obtain ⟨z, hz, hS, hb⟩ := hrel
    have cn : wr.cell? ⟨g, 72, none⟩ = some (.int .u64 ((L.length : Int) + 1 + z)) := by
      obtain ⟨bl, h1, _⟩ := hS
      rw [cell_st h1]; simp; omega
    have hzz : zeros L.length = (119 - L.length % 64) % 64 := rfl
    by_cases hlt : z < zeros L.length
    · have hd : (((L.length : Int) + 1 + z) % 64 != 56) = true := by rw [bne_iff_ne]; omega
      go_wp2_with fail
      refine (take_any n g _ _ _ (hG.below hb hg2) hg2 hS (by simp [ByteArray.size]; omega)).mono ?_
      rintro e w2 ⟨rfl, hS2, hb2⟩
      go_wp2
      have hS3 : SumIs n w2 g (L ++ [0x80] ++ List.replicate (z + 1) 0) := by
        rw [List.replicate_succ', ← List.append_assoc]; exact hS2
      go_roundw
      case rel => exact ⟨z + 1, by omega, hS3, hb.trans hb2⟩
      case measure =>
        rw [left56_of hS, left56_of hS3]
        simp
        omega
    · have hd : (((L.length : Int) + 1 + z) % 64 != 56) = false := by rw [bne_eq_false_iff_eq]; omega
      have hzl : z = zeros L.length := by omega
      clear hzz hz hlt
      subst hzl
      go_wp2
      generalize hW : World.alloc wr _ = w3
      have h0 : Has w3 wr.heap.size 228 (bv (lenUp L.length 0)) 8 := by
        rw [← hW]
        exact (Has.new wr 228 (fun _ => .int .u8 0) 8 _ rfl).congr _ (fun i _ => by unfold bv lenUp; rw [if_neg (by omega)]; rfl)
      have hgl : g < wr.heap.size := by obtain ⟨bl, h1, _⟩ := hS; exact h1.lt
      have hb3 : Below wr.heap.size wr w3 := by rw [← hW]; exact (Below.refl _ _).alloc (Nat.le_refl _) _
      have hS3 := hS.below hb3 hgl
      have hb4 := hb.trans (hb3.mono (Nat.le_of_lt hgl))
      clear hW hS hb cn hd hb3
      generalize wr.heap.size = gb at *
      go_loopw [20] (fun i wq => ∃ k : Nat, k ≤ 8 ∧ i = .int .i64 k ∧ Has wq gb 228 (bv (lenUp L.length k)) 8 ∧ SumIs n wq g (L ++ [0x80] ++ List.replicate (zeros L.length) 0) ∧ Below g w wq) (fun i _ => 8 - (intOf i).toNat)
      case atStart => exact ⟨0, by omega, rfl, h0, hS3, hb4⟩
      case round =>
        clear h0 hS3 hb4
        obtain ⟨k, hk, rfl, h0, hS3, hb4⟩ := hrel
        by_cases hlt : k < 8
        · have cw := h0.cell k hlt
          have cf := h0.frozen k
          have hd : decide ((k : Int) < 8) = true := by simp; omega
          simp only [bv] at cw
          go_wp2
          go_roundw
          case rel =>
            refine ⟨k + 1, by omega, by go_num, ?_, hS3.other _ _ (by simp; omega), hb4.setCell (by simp; omega) _⟩
            have := h0.set k (.int .u8 ((lenByte L.length k).toNat : Int))
            rw [bv_upd, lenUp_next] at this
            rw [lenByte_num L.length k hlt]
            exact this
          case measure => simp [intOf]; omega
        · have hk8 : k = 8 := by omega
          subst hk8
          have hcv := run_conv h0 8 8 (Nat.le_refl _)
          go_wp2_with fail
          refine (take_any n g _ _ _ (hG.below hb4 hg2) hg2 hS3 ?_).mono ?_
          · have := Nat.mod_lt (119 - L.length % 64) (show 0 < 64 by omega)
            rw [strOf_size]; simp [zeros]; omega
          rintro e w2 ⟨rfl, hS2, hb2⟩
          go_wp2
          go_end0
          refine ⟨rfl, ?_, hb4.trans hb2⟩
          rw [strOf_list] at hS2
          exact hS2
end Go.Proofs.YtmmcoedgoekhgaaGreatDoor
/-
  told, Sum.
-/
namespace Go.Proofs.YtmmcoedgoekhgaaGreatDoor
set_option maxRecDepth 20000
open Go.RowKit S
def toldUp (st : Nat → BitVec 32) (k : Nat) : Nat → UInt8 := fun i => if i < k then told st i else 0
theorem toldUp_next (st : Nat → BitVec 32) (k : Nat) : upd (toldUp st k) k (told st k) = toldUp st (k + 1) := by
  funext i; unfold upd toldUp
  by_cases e : i = k
  · subst e; rw [if_pos rfl, if_pos (by omega)]
  · rw [if_neg e]; by_cases h : i < k
    · rw [if_pos h, if_pos (by omega)]
    · rw [if_neg h, if_neg (by omega)]
theorem told0 (n : Num) (st : Nat → BitVec 32) (k : Nat) : n.u (st k) / 16777216 % 256 = ((told st (4 * k)).toNat : Int) := by
  unfold told; rw [n.eq, UInt8.toNat_ofNat', show 4 * k / 4 = k by omega, show 4 * k % 4 = 0 by omega]; simp
theorem told1 (n : Num) (st : Nat → BitVec 32) (k : Nat) : n.u (st k) / 65536 % 256 = ((told st (4 * k + 1)).toNat : Int) := by
  unfold told; rw [n.eq, UInt8.toNat_ofNat', show (4 * k + 1) / 4 = k by omega, show (4 * k + 1) % 4 = 1 by omega]; simp
theorem told2 (n : Num) (st : Nat → BitVec 32) (k : Nat) : n.u (st k) / 256 % 256 = ((told st (4 * k + 2)).toNat : Int) := by
  unfold told; rw [n.eq, UInt8.toNat_ofNat', show (4 * k + 2) / 4 = k by omega, show (4 * k + 2) % 4 = 2 by omega]; simp
theorem told3 (n : Num) (st : Nat → BitVec 32) (k : Nat) : n.u (st k) % 256 = ((told st (4 * k + 3)).toNat : Int) := by
  unfold told; rw [n.eq, UInt8.toNat_ofNat', show (4 * k + 3) / 4 = k by omega, show (4 * k + 3) % 4 = 3 by omega]; simp
set_option maxHeartbeats 800000 in
theorem told_any (n : Num) (g : Nat) (st : Nat → BitVec 32) (bl : Nat → UInt8) (c : Nat) (w : World) (hS : Has w g 199 (sumv n st bl c) 73) :
    Calls Tryz.prog 163 #[.pointer (some ⟨g, 0, none⟩)] w fun e w' => e = .returned (.agg (tabv (bv (told st)) 32)) ∧ Below w.heap.size w w' := by
  have h1 : Has ((w.alloc (.cells (tabv (fun _ => .int .u8 0) 32) 23)).alloc (.cells (tabv (fun _ => .int .u8 0) 32) 23)) g 199 (sumv n st bl c) 73 := (hS.old _).old _
  have HH := hide h1
  clear h1
  go_enter Tryz.func163, Tryz.ntmps163
  go_wp2_with (refine wpList_load_part rfl 195 _ rfl g 0 rfl 199 _ 73 8 _ HH.out (by omega) Tryz.underlying195 rfl info43 (wv n st) (fun i hi => by rw [Nat.zero_add]; unfold sumv wv; rw [if_pos hi]) ?_)
  generalize hW : World.alloc (World.alloc w _) _ = w3
  have g0 : Has w3 w.heap.size 23 (fun _ => .int .u8 0) 32 := by rw [← hW]; exact (Has.new w 23 (fun _ => .int .u8 0) 32 _ rfl).old _
  have g1 : Has w3 (w.heap.size + 1) 23 (bv (toldUp st 0)) 32 := by
    rw [← hW]
    have := (Has.new (w.alloc (.cells (tabv (fun _ => .int .u8 0) 32) 23)) 23 (fun _ => .int .u8 0) 32 _ rfl).congr (bv (toldUp st 0)) (fun i _ => by unfold bv toldUp; rw [if_neg (by omega)]; rfl)
    rw [size_alloc] at this
    exact this
  have gb : Below w.heap.size w w3 := by rw [← hW]; exact ((Below.refl w.heap.size w).alloc (Nat.le_refl _) _).alloc (by simp) _
  clear hW HH hS
  go_loopw [10] (fun i wr => ∃ k : Nat, k ≤ 8 ∧ i = .int .i64 k ∧ Has wr w.heap.size 23 (fun _ => .int .u8 0) 32 ∧ Has wr (w.heap.size + 1) 23 (bv (toldUp st (4 * k))) 32 ∧ Below w.heap.size w wr) (fun i _ => 8 - (intOf i).toNat)
  case atStart => exact ⟨0, by omega, rfl, g0, g1, gb⟩
  case round =>
    clear g0 g1 gb
    obtain ⟨k, hk, rfl, g0, g1, gb⟩ := hrel
    by_cases hlt : k < 8
    · have c0 := g1.cell (4 * k) (by omega)
      have c1 := g1.cell (4 * k + 1) (by omega)
      have c2 := g1.cell (4 * k + 2) (by omega)
      have c3 := g1.cell (4 * k + 3) (by omega)
      have f0 := g1.frozen (4 * k)
      have f1 := g1.frozen (4 * k + 1)
      have f2 := g1.frozen (4 * k + 2)
      have f3 := g1.frozen (4 * k + 3)
      have ht := idx43 (wv n st) wr k hlt
      simp only [wv] at ht
      have hd : decide ((k : Int) < 8) = true := by simp; omega
      go_wp2
      go_roundw
      case rel =>
        refine ⟨k + 1, by omega, by go_num, (((g0.other _ _ (by simp)).other _ _ (by simp)).other _ _ (by simp)).other _ _ (by simp), ?_, (((gb.setCell (by simp) _).setCell (by simp) _).setCell (by simp) _).setCell (by simp) _⟩
        have := (((g1.set (4 * k) (.int .u8 ((told st (4 * k)).toNat : Int))).set (4 * k + 1) (.int .u8 ((told st (4 * k + 1)).toNat : Int))).set (4 * k + 2) (.int .u8 ((told st (4 * k + 2)).toNat : Int))).set (4 * k + 3) (.int .u8 ((told st (4 * k + 3)).toNat : Int))
        rw [bv_upd, bv_upd, bv_upd, bv_upd, toldUp_next, toldUp_next, toldUp_next, toldUp_next] at this
        rw [told0, told1, told2, told3]
        exact this
      case measure => simp [intOf]; omega
    · have hk8 : k = 8 := by omega
      subst hk8
      go_wp2_with (first | refine wpList_load_part rfl 23 _ rfl (w.heap.size + 1) 0 rfl 23 _ 32 32 _ g1 (by omega) Tryz.underlying23 rfl info26 (bv (told st)) (fun i hi => by rw [Nat.zero_add]; unfold bv toldUp; rw [if_pos (by omega)]) ?_ | refine wpList_store_part rfl 23 _ _ rfl rfl w.heap.size 0 (bv (told st)) 32 rfl rfl 23 _ 32 g0 (by omega) info26 (fun _ _ => rfl) (bv (told st)) (fun i hi => by unfold splice; rw [if_pos (by omega), Nat.sub_zero]) ?_)
      exact bodyPost_ret (results_cell_row rfl _ _ w.heap.size 23 _ (0, 0) _ rfl (g0.row _ _ rfl) Tryz.underlying23 rfl (by rw [tabv_size]; exact info26)) rfl ⟨rfl, below_setRow gb (Nat.le_refl _) _⟩
/-- a: where the texts ss stand. -/
def Strs (w : World) (a : Option Addr) (ss : List ByteArray) : Prop := ss = [] ∨ ∃ b o, a = some ⟨b, o, none⟩ ∧ b < w.heap.size ∧ ∀ i (h : i < ss.length), w.cell? ⟨b, o + i, none⟩ = some (.string ss[i])
theorem Strs.below {w w' : World} {a : Option Addr} {ss : List ByteArray} (h : Strs w a ss) (hb : Below w.heap.size w w') : Strs w' a ss := by
  rcases h with h | ⟨b, o, rfl, h1, h2⟩
  · exact .inl h
  · exact .inr ⟨b, o, rfl, Nat.lt_of_lt_of_le h1 hb.size, fun i hi => by rw [World.cell?_of_block (w := w) (hb.block b h1)]; exact h2 i hi⟩
/-- The texts one behind the other. -/
def flat (ss : List ByteArray) : List UInt8 := (ss.map fun s => s.data.toList).flatten
theorem flat_take (ss : List ByteArray) (k : Nat) (h : k < ss.length) : flat (ss.take (k + 1)) = flat (ss.take k) ++ ss[k].data.toList := by
  unfold flat; rw [List.take_succ_eq_append_getElem h, List.map_append, List.flatten_append]; simp
theorem flat_le (ss : List ByteArray) (k : Nat) : (flat (ss.take k)).length ≤ (flat ss).length := by
  have : flat ss = flat (ss.take k) ++ flat (ss.drop k) := by unfold flat; rw [← List.flatten_append, ← List.map_append, List.take_append_drop]
  rw [this, List.length_append]; omega
theorem run_loadVar_cells (w : World) (g : Nat) (f : Nat → Value) (h : ∀ i, i < 8 → w.cell? ⟨g, i, none⟩ = some (f i)) : (loadVar 195 ⟨g, 0, none⟩).run Tryz.prog w = .ok (.agg (tabv f 8)) w := by
  have hl : (loadCells ⟨g, 0, none⟩ (tabv f 8).toList.length).run Tryz.prog w = .ok (tabv f 8).toList.toArray w :=
    run_loadCells_list (P := Tryz.prog) w ⟨g, 0, none⟩ (tabv f 8).toList (fun j v hv => by
      have hj : j < 8 := by
        have := (List.getElem?_eq_some_iff.1 hv).1
        simpa [tabv] using this
      have hadd : (⟨g, 0, none⟩ : Addr).add j = ⟨g, j, none⟩ := by unfold Addr.add; split <;> simp_all
      rw [hadd, h j hj]
      rw [Array.getElem?_toList, tabv_get _ _ _ hj] at hv
      exact hv)
  have hi := info43
  cases hq : Tryz.prog.info? 195 with
  | none => simp [hq] at hi
  | some i =>
    have hs : i.size = 8 := by simpa [hq] using hi
    have hagg : (isAgg 195).run Tryz.prog w = .ok true w := by
      unfold isAgg
      rw [Sem.run_bind, run_underlying Tryz.underlying195 w]
      rfl
    simp only [Array.length_toList, Array.toArray_toList, tabv_size] at hl
    simp [loadVar, Sem.run_bind, hagg, sizeOf, typeInfo, hq, hs, hl]
theorem wpList_load_cells {ops : Array Oper} {rest : List Oper} {o : Oper} {a : Act} {w : World} {Q : Exit → Act → World → Prop} (hgd : o.guard = none) (x : Operand) (ho : o.op = .load 195 x)
    (g : Nat) (hx : a.eval x = .pointer (some ⟨g, 0, none⟩)) (f : Nat → Value) (hc : ∀ i, i < 8 → w.cell? ⟨g, i, none⟩ = some (f i))
    (h : wpList Tryz.prog ops Q rest (a.put o.dst (.agg (tabv f 8))) w) : wpList Tryz.prog ops Q (o :: rest) a w :=
  wpList_plain hgd fun _ hK => by
    unfold Oper.wp execOp
    simp only [ho, hx, Instr.loadAt, Instr.sureAddr, Sem.run_bind, Sem.run_pure, Result.andThen_ok, run_loadVar_cells w g f hc]
    exact hK _ _ h
theorem built47 (n : Num) (f : Nat → BitVec 32) : Tryz.prog.built 199 [(0, .agg (tabv (wv n f) 8))] = some (tabv (sumv n f (fun _ => 0) 0) 73) := by kernel_rfl
theorem wpList_build47 (n : Num) (f : Nat → BitVec 32) {ops : Array Oper} {rest : List Oper} {o : Oper} {a : Act} {w : World} {Q : Exit → Act → World → Prop} (hgd : o.guard = none) (x : Operand) (ho : o.op = .build 199 #[(0, x)])
    (hx : a.eval x = .agg (tabv (wv n f) 8)) (h : wpList Tryz.prog ops Q rest (a.put o.dst (.agg (tabv (sumv n f (fun _ => 0) 0) 73))) w) : wpList Tryz.prog ops Q (o :: rest) a w := by
  have e : (Array.map (fun p : Nat × Operand => (p.1, a.eval p.2)) #[(0, x)]).toList = [(0, .agg (tabv (wv n f) 8))] := by simp [hx]
  refine wpList_build hgd 199 #[(0, x)] ho ?_ ?_
  · rw [e, built47]; rfl
  · rw [e, built47]; exact h
def zer47 : Nat → Value := fun i => if i < 8 then .int .u32 0 else if i < 72 then .int .u8 0 else .int .u64 0
theorem zero47 (w : World) : (zeroValue 199).run Tryz.prog w = .ok (.agg (tabv zer47 73)) w := by
  have h : (Tryz.prog.info? 199).bind (·.zero) = some (.agg (tabv zer47 73)) := by kernel_rfl
  cases hq : Tryz.prog.info? 199 with
  | none => simp [hq] at h
  | some i => simp [hq] at h; simp [zeroValue, typeInfo, hq, h]
theorem info47 : (Tryz.prog.info? 199).map (·.size) = some 73 := by kernel_rfl
set_option maxHeartbeats 800000 in
theorem sum_any (n : Num) (a : Option Addr) (cap : Nat) (ss : List ByteArray) (w : World) (hG : Glob n w) (hs : Strs w a ss) (hl : (flat ss).length < 1152921504606846976) (hn : ss.length < 1152921504606846976) :
    Calls Tryz.prog 107 #[.slice a ss.length cap] w fun e w' => e = .returned (.agg (tabv (bv (sha (flat ss))) 32)) ∧ Below w.heap.size w w' := by
  have hG1 : Glob n (w.alloc (.cells (tabv (fun _ => .int .u8 0) 32) 23)) := hG.below ((Below.refl w.heap.size w).alloc (Nat.le_refl _) _) hG.2.2
  have hz := zero47
  have hA : Has ((w.alloc (.cells (tabv (fun _ => .int .u8 0) 32) 23)).alloc (.cells (tabv zer47 73) 199)) (w.heap.size + 1) 199 zer47 73 := by
    have := Has.new (w.alloc (.cells (tabv (fun _ => .int .u8 0) 32) 23)) 199 zer47 73 _ rfl
    rw [size_alloc] at this
    exact this
  have HA := hide hA
  clear hA
  go_enter Tryz.func107, Tryz.ntmps107
  go_wp2_with (first | refine wpList_store_part rfl 199 _ _ rfl rfl (w.heap.size + 1) 0 (sumv n first (fun _ => 0) 0) 73 rfl rfl 199 _ 73 HA.out (by omega) info47 (fun i _ => by unfold sumv; split; rfl; split <;> rfl) (sumv n first (fun _ => 0) 0) (fun i hi => by unfold splice; rw [if_pos (by omega), Nat.sub_zero]) ?_ | refine wpList_load_cells rfl _ rfl 0 rfl (wv n first) hG1.2.1 ?_ | refine wpList_build47 n first rfl _ rfl rfl ?_)
  generalize hW : World.setRow (World.alloc (World.alloc w _) _) _ _ = w3
  have g0 : Has w3 w.heap.size 23 (fun _ => .int .u8 0) 32 := by rw [← hW]; exact ((Has.new w 23 (fun _ => .int .u8 0) 32 _ rfl).old _).row_other _ _ (by omega)
  have g1 : SumIs n w3 (w.heap.size + 1) (flat (ss.take 0)) := by
    rw [show flat (ss.take 0) = [] by rw [List.take_zero]; rfl]
    refine ⟨fun _ => 0, ?_, fun j hj => absurd hj (by simp)⟩
    rw [← hW]; exact HA.out.row _ _ rfl
  have gb : Below w.heap.size w w3 := by rw [← hW]; exact below_setRow (((Below.refl w.heap.size w).alloc (Nat.le_refl _) _).alloc (by simp) _) (by omega) _
  clear hW HA hz hG1
  go_loopw [10] (fun i wr => ∃ k : Nat, k ≤ ss.length ∧ i = .int .i64 k ∧ Has wr w.heap.size 23 (fun _ => .int .u8 0) 32 ∧ SumIs n wr (w.heap.size + 1) (flat (ss.take k)) ∧ Below w.heap.size w wr) (fun i _ => ss.length - (intOf i).toNat)
  case atStart => exact ⟨0, by omega, rfl, g0, g1, gb⟩
  case round =>
    clear g0 g1 gb
    obtain ⟨k, hk, rfl, g0, g1, gb⟩ := hrel
    have h2 := hG.2.2
    by_cases hlt : k < ss.length
    · have hd : decide ((k : Int) < (ss.length : Int)) = true := by simp; omega
      have hle := flat_le ss (k + 1)
      have hft := flat_take ss k hlt
      rw [hft, List.length_append, str_len] at hle
      rcases hs.below gb with h | ⟨b, o, rfl, hb0, hcs⟩
      · rw [h] at hlt; exact absurd hlt (by simp)
      have hck := hcs k hlt
      go_wp2_with fail
      refine (take_any n _ _ _ _ (hG.below gb h2) (by omega) g1 (by omega)).mono ?_
      rintro e w1 ⟨rfl, hS1, hb1⟩
      go_wp2
      go_roundw
      case rel => exact ⟨k + 1, by omega, by go_num, g0.below hb1 (by omega), by rw [hft]; exact hS1, gb.trans (hb1.mono (by omega))⟩
      case measure => simp [intOf]; omega
    · have hkl : k = ss.length := by omega
      subst hkl
      rw [List.take_length] at g1
      have hd : decide ((ss.length : Int) < (ss.length : Int)) = false := by simp
      go_wp2_with fail
      refine (pad_any n _ _ _ (hG.below gb h2) (by omega) g1 (by omega)).mono ?_
      rintro e w1 ⟨rfl, hS1, hb1⟩
      have g0' := g0.below hb1 (by omega)
      have gb1 := gb.trans (hb1.mono (by omega))
      obtain ⟨bl, hS2, _⟩ := hS1
      go_wp2_with fail
      refine (told_any n _ _ _ _ _ hS2).mono ?_
      rintro e w2 ⟨rfl, hb2⟩
      have g0'' := g0'.below hb2 g0'.lt
      have gb2 := gb1.trans (hb2.mono gb1.size)
      go_wp2_with (refine wpList_store_part rfl 23 _ _ rfl rfl w.heap.size 0 (bv (told (stateOf (padded (flat ss))))) 32 rfl rfl 23 _ 32 g0'' (by omega) info26 (fun _ _ => rfl) (bv (sha (flat ss))) (fun i hi => by unfold splice; rw [if_pos (by omega), Nat.sub_zero]; rfl) ?_)
      exact bodyPost_ret (results_cell_row rfl _ _ w.heap.size 23 _ (0, 0) _ rfl (g0''.row _ _ rfl) Tryz.underlying23 rfl (by rw [tabv_size]; exact info26)) rfl ⟨rfl, below_setRow gb2 (Nat.le_refl _) _⟩
end Go.Proofs.YtmmcoedgoekhgaaGreatDoor
