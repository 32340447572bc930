import Derived.Test.YtmmcoedgoekhgaaGreatDoorRefBlock
import Derived.Deep.AppendSrc
import Derived.Test.YtmmcoedgoekhgaaGreatDoorSumText
/-
  The document's padded text, its One.
-/
namespace Go.Proofs.YtmmcoedgoekhgaaGreatDoor
set_option maxRecDepth 20000
open Go.RowKit S
/-- append(nil, b...) -/
theorem run_append_text (w : World) (b : ByteArray) (hl : b.size ≤ 140737488355328) (ty : TypeId) :
    ∃ v w', (Builtin.append_ #[150, 9] ty #[.slice none 0 0, .string b]).run Tryz.prog w = .ok v w' ∧ Bytes w' w.heap.size v b.data.toList ∧ Below w.heap.size w w' := by
  have hh := info5
  cases hq : Tryz.prog.info? 5 with
  | none => rw [hq] at hh; cases hh
  | some i =>
    rw [hq] at hh
    simp only [Option.map_some, Option.some.injEq, Prod.mk.injEq] at hh
    obtain ⟨hz0, hz1, hz2⟩ := hh
    have hsrc : Src Tryz.prog i.size 9 (.string b) b.size (byteCells b) w := by rw [hz1]; exact Src.ofString w Tryz.underlying9 b
    rcases Nat.eq_zero_or_pos b.size with h0 | h0
    · have hs : Src Tryz.prog i.size 9 (.string b) 0 [] w := by
        have e : byteCells b = [] := by rw [← List.length_eq_zero_iff, byteCells_length]; exact h0
        rw [h0, e] at hsrc; exact hsrc
      refine ⟨.slice none 0 0, w, ?_, ?_, Below.refl _ _⟩
      · rcases hs.kind with ⟨e', hk⟩ | hk <;> simp [Builtin.append_, run_underlying Tryz.underlying150, run_underlying hk, sizeOf, typeInfo, hq, hs.len, hs.cells]
      · have : b.data.toList = [] := by rw [← List.length_eq_zero_iff, str_len]; exact h0
        rw [this]; exact Bytes.nil w _
    · have hr := run_append_grow_src (P := Tryz.prog) w 150 9 ty 5 i (.int .u8 0) Tryz.underlying150 hq hz0 none 0 0 [] (run_firstCells_none w.drew i.size 0 0 0) (.string b) b.size (byteCells b) hsrc (by omega) (by omega) (by
        rw [hz2, Nat.zero_add, Nat.mul_one]
        rw [nextslicecap_zero h0]; omega)
      rw [Nat.zero_add] at hr
      refine ⟨_, _, hr, ?_, (Below.refl _ _).drew.alloc (Nat.le_refl _) _⟩
      refine ⟨by simp, .inr ⟨w.heap.size, _, _, by rw [str_len], Nat.le_refl _, heap_alloc_new w.drew _, ?_, ?_, ?_, ?_⟩⟩
      · rw [str_len]; exact grownCap_ge w b.size 0 5
      · exact grownCap_le_maxLen w b.size 0 5 (by unfold maxLen; omega)
      · have := grownCap_ge w b.size 0 5
        simp only [List.nil_append, Array.size_append, List.size_toArray, byteCells_length, size_zeroCells, Value.cells, Nat.mul_one]
        simp
        omega
      · rw [Nat.mul_one, Array.toList_append, List.nil_append]
        simp only []
        have e : b.data.toList.length = (byteCells b).length := by rw [byteCells_length, str_len]
        rw [e, List.take_left' rfl]
        rfl
theorem wpList_append_text {ops : Array Oper} {rest : List Oper} {o : Oper} {a : Act} {w : World} {Q : Exit → Act → World → Prop} (hgd : o.guard = none) (s x : Operand)
    (ho : o.op = .call { callee := .builtin .append, args := #[s, x], argTypes := #[150, 9] }) (b : ByteArray) (hs : a.eval s = .slice none 0 0) (hx : a.eval x = .string b) (hl : b.size ≤ 140737488355328)
    (h : ∀ v w', Bytes w' w.heap.size v b.data.toList → Below w.heap.size w w' → wpList Tryz.prog ops Q rest (a.put o.dst v) w') : wpList Tryz.prog ops Q (o :: rest) a w := by
  obtain ⟨v, w', hr, h1, h2⟩ := run_append_text w b hl o.type
  refine wpList_plain hgd fun K hK => ?_
  unfold Oper.wp execOp
  simp only [ho, resolve, invoke, builtin, Sem.run_bind, Sem.run_pure, Result.andThen_ok, List.map_toArray, List.map_cons, List.map_nil, hs, hx, hr]
  exact hK _ _ (h v w' h1 h2)
theorem Bytes.form {w : World} {B : Nat} {v : Value} {l : List UInt8} (h : Bytes w B v l) (hn : 0 < l.length) : ∃ g cap, v = .slice (some ⟨g, 0, none⟩) l.length cap := by
  obtain ⟨g, cap, rfl, _, _⟩ := World.ownsRow.form h hn
  exact ⟨g, cap, rfl⟩
set_option maxHeartbeats 800000 in
theorem refPadded_any (s : ByteArray) (w : World) (hs : s.size ≤ 140737488355200) :
    Calls Tryz.prog 168 #[.string s] w fun e w' => (∃ v, e = .returned v ∧ Bytes w' w.heap.size v (padded s.data.toList)) ∧ Below w.heap.size w w' := by
  obtain ⟨L, hL⟩ : ∃ L, s.data.toList = L := ⟨_, rfl⟩
  have hLs : L.length = s.size := by rw [← hL, str_len]
  go_enter Tryz.func168, Tryz.ntmps168
  go_wp2_with (at_builtin; first | (refine wpList_append_text rfl _ _ rfl s (by rfl) (by rfl) (by omega) ?_; intro v w1 hB1 hb1; rw [hL] at hB1) | (refine wpList_append_byte rfl _ _ rfl w.heap.size _ L 0x80 _ rfl (by rfl) hB1 (by rfl) rfl (by omega) hb1.size ?_; intro g cap w5 hB5 hgr hg))
  have hb5 := hb1.trans (grown_below (B := w.heap.size) hgr hB1.block hb1.size)
  clear hgr hg hB1 hb1
  rw [hLs] at hB5
  go_loopw [3] (fun v wr => ∃ z : Nat, z ≤ zeros s.size ∧ Bytes wr w.heap.size v (L ++ [0x80] ++ List.replicate z 0) ∧ Below w.heap.size w wr) (fun v _ => match v with | .slice _ m _ => (120 - m % 64) % 64 | _ => 0)
  case atStart => exact ⟨0, Nat.zero_le _, by rw [List.replicate_zero, List.append_nil]; exact hB5, hb5⟩
  case round =>
    clear hB5 hb5
    obtain ⟨z, hz, hB, hb⟩ := hrel
    have hzz : zeros s.size = (119 - s.size % 64) % 64 := rfl
    have hlen : (L ++ [0x80] ++ List.replicate z 0).length = s.size + 1 + z := by simp [hLs]; omega
    obtain ⟨g, cap, rfl⟩ := hB.form (by rw [hlen]; omega)
    rw [hlen] at hB ⊢
    by_cases hlt : z < zeros s.size
    · have hd : (((s.size : Int) + 1 + z) % 64 != 56) = true := by rw [bne_iff_ne]; omega
      go_wp2_with (at_builtin; refine wpList_append_byte rfl _ _ rfl w.heap.size _ (L ++ [0x80] ++ List.replicate z 0) 0 _ rfl (by rfl) hB (by rfl) rfl (by rw [hlen]; omega) hb.size ?_; intro g2 cap2 w6 hB6 hgr hg2)
      go_roundw
      case rel =>
        refine ⟨z + 1, by omega, ?_, hb.trans (grown_below (B := w.heap.size) hgr (Bytes.block hB) hb.size)⟩
        rw [hlen] at hB6
        rw [List.replicate_succ', ← List.append_assoc, show s.size + (z + 1) + 1 = s.size + 1 + z + 1 by omega]
        exact hB6
      case measure =>
        show (120 - (s.size + (z + 1) + 1) % 64) % 64 < (120 - (s.size + 1 + z) % 64) % 64
        omega
    · have hd : (((s.size : Int) + 1 + z) % 64 != 56) = false := by rw [bne_eq_false_iff_eq]; omega
      have hzl : z = zeros s.size := by omega
      have hz64 : z < 64 := by rw [hzl, hzz]; exact Nat.mod_lt _ (by omega)
      have HZ := hide hzl
      clear hzl hzz hz hlt
      go_wp2
      have hB' : Bytes wr w.heap.size (.slice (some ⟨g, 0, none⟩) (s.size + 1 + z) cap) (L ++ [0x80] ++ List.replicate z 0 ++ (List.range 0).map (lenByte s.size)) := by rw [List.range_zero, List.map_nil, List.append_nil]; exact hB
      clear hB hd
      go_loopw [4, 3] (fun i v wr => ∃ k : Nat, k ≤ 8 ∧ i = .int .i64 (7 - (k : Int)) ∧ Bytes wr w.heap.size v (L ++ [0x80] ++ List.replicate z 0 ++ (List.range k).map (lenByte s.size)) ∧ Below w.heap.size w wr) (fun i _ _ => (intOf i + 1).toNat)
      case atStart => exact ⟨0, by omega, rfl, hB', hb⟩
      case round =>
        clear hB' hb hlen
        obtain ⟨k, hk, rfl, hB, hb⟩ := hrel
        have hlen : (L ++ [0x80] ++ List.replicate z 0 ++ (List.range k).map (lenByte s.size)).length = s.size + 1 + z + k := by simp [hLs]; omega
        obtain ⟨g, cap, rfl⟩ := hB.form (by rw [hlen]; omega)
        rw [hlen] at hB ⊢
        by_cases hlt : k < 8
        · have hd : decide ((7 : Int) - (k : Int) ≥ 0) = true := by simp; omega
          obtain ⟨j, hj⟩ : ∃ j : Nat, (7 : Int) - (k : Int) = (j : Int) := ⟨7 - k, by omega⟩
          rw [hj] at hd ⊢
          have hv : (8 : Int) * (s.size : Int) / 2 ^ (8 * j) % 256 = ((lenByte s.size k).toNat : Int) := by
            have := lenByte_num s.size k hlt
            rw [Int.mul_comm, show 8 * j = 56 - 8 * k by omega]; exact this
          go_wp2_with (at_builtin; refine wpList_append_byte rfl _ _ rfl w.heap.size _ (L ++ [0x80] ++ List.replicate z 0 ++ (List.range k).map (lenByte s.size)) (lenByte s.size k) _ rfl (by rfl) hB (by rfl) rfl (by rw [hlen]; omega) hb.size ?_; intro g2 cap2 w6 hB6 hgr hg2)
          go_roundw
          case rel =>
            refine ⟨k + 1, by omega, by rw [← hj]; congr 1; omega, ?_, hb.trans (grown_below (B := w.heap.size) hgr (Bytes.block hB) hb.size)⟩
            rw [hlen] at hB6
            rw [← range_snoc, ← List.append_assoc, show s.size + (z + k + 1) + 1 = s.size + 1 + z + k + 1 by omega]
            exact hB6
          case measure => simp only [intOf]; omega
        · have hk8 : k = 8 := by omega
          subst hk8
          have hd : decide ((7 : Int) - ((8 : Nat) : Int) ≥ 0) = false := by decide
          go_wp2
          go_ret
          refine ⟨⟨_, rfl, ?_⟩, hb⟩
          have e : padded s.data.toList = L ++ [0x80] ++ List.replicate z 0 ++ (List.range 8).map (lenByte s.size) := by
            unfold padded lenBytes; rw [hL, hLs, HZ.out]
          rw [e]
          exact hB
theorem padded_length (L : List UInt8) : (padded L).length = L.length + 1 + zeros L.length + 8 := by unfold padded lenBytes; simp; omega
theorem padded_mod (L : List UInt8) : (padded L).length % 64 = 0 := by
  rw [padded_length]; unfold zeros; omega
theorem fLit (n : Num) (i : Nat) : (.int .u32 ((first i).toNat : Int) : Value) = wv n first i := by unfold wv; rw [n.eq]
theorem told_num (n : Num) (st : Nat → BitVec 32) (k : Nat) : n.u (st (k / 4)) / 2 ^ (24 - 8 * (k % 4)) % 256 = ((told st k).toNat : Int) := by
  unfold told; rw [n.eq, UInt8.toNat_ofNat']; simp
set_option maxRecDepth 100000 in
set_option maxHeartbeats 1600000 in
theorem refOne_any (n : Num) (s : ByteArray) (w : World) (hs : s.size ≤ 140737488355200) :
    Calls Tryz.prog 120 #[.string s] w fun e w' => e = .returned (.agg (tabv (bv (sha s.data.toList)) 32)) ∧ Below w.heap.size w w' := by
  have h0 : Has (w.alloc (.cells (tabv (fun _ => .int .u8 0) 32) 23)) w.heap.size 23 (fun _ => .int .u8 0) 32 := Has.new w 23 _ 32 _ rfl
  have hb : Below w.heap.size w (w.alloc (.cells (tabv (fun _ => .int .u8 0) 32) 23)) := (Below.refl w.heap.size w).alloc (Nat.le_refl _) _
  have H0 := hide h0
  have HB := hide hb
  clear h0 hb
  go_enter Tryz.func120, Tryz.ntmps120
  go_wp2_with fail
  refine (refPadded_any s _ hs).mono ?_
  rintro e w1 ⟨⟨v, rfl, hB⟩, hb1⟩
  have hpl := padded_length s.data.toList
  have hpm := padded_mod s.data.toList
  rw [str_len] at hpl
  have hz : zeros s.size < 64 := Nat.mod_lt _ (by omega)
  have hsha : told (stateOf (padded s.data.toList)) = sha s.data.toList := rfl
  obtain ⟨L, hL⟩ : ∃ L, padded s.data.toList = L := ⟨_, rfl⟩
  rw [hL] at hB hpl hpm hsha
  clear hL
  obtain ⟨gp, cp, rfl⟩ := hB.form (by omega)
  have HP := hide hpl
  have hll : L.length ≤ 140737488355328 := by omega
  clear hpl
  have g0 := H0.out.below hb1 H0.out.lt
  have gb := HB.out.trans (hb1.mono HB.out.size)
  have gs : w.heap.size < w1.heap.size := g0.lt
  have HS := hide hsha
  clear H0 HB hb1 hsha
  have hn := Has.new w1 195 (fun _ => .int .u32 0) 8 _ rfl
  have HN := hide hn
  clear hn
  go_wp2_with (first | refine wpList_builtTo rfl 195 _ rfl (tabv (fun i => .int .u32 ((first i).toNat : Int)) 8) (by kernel_rfl) ?_ | refine wpList_store_part rfl 195 _ _ rfl rfl w1.heap.size 0 (fun i => .int .u32 ((first i).toNat : Int)) 8 rfl rfl 195 _ 8 HN.out (by omega) info43 (fun _ _ => rfl) (wv n first) (fun i hi => by unfold splice; rw [if_pos (by omega), Nat.sub_zero]; exact fLit n i) ?_)
  generalize hW : World.setRow (World.alloc w1 _) _ _ = w3
  have j4 : Has w3 w1.heap.size 195 (wv n (blocks (byteAt L) 0)) 8 := by rw [← hW]; exact HN.out.row _ _ rfl
  have jw : Below w1.heap.size w1 w3 := by rw [← hW]; exact below_setRow ((Below.refl _ _).alloc (Nat.le_refl _) _) (Nat.le_refl _) _
  have j0 := g0.below jw g0.lt
  have jB := World.ownsRow.kept (row := none) hB ⟨jw.os, jw.tape, jw.output, jw.size, fun i hi _ => jw.block i hi⟩ (.inr (by simp [Value.ownBlock]))
  have jb := gb.trans (jw.mono gb.size)
  have hgp : gp < w1.heap.size := (World.ownsRow.lt hB gp rfl).2
  clear hW HN g0 gb hB jw
  generalize w1.heap.size = g4 at gs j4 hgp ⊢
  go_loopw [5] (fun i wr => ∃ k : Nat, 64 * k ≤ L.length ∧ i = .int .i64 (64 * (k : Int)) ∧ Has wr g4 195 (wv n (blocks (byteAt L) k)) 8 ∧ Has wr w.heap.size 23 (fun _ => .int .u8 0) 32 ∧ Bytes wr (w.alloc (.cells (tabv (fun _ => .int .u8 0) 32) 23)).heap.size (.slice (some ⟨gp, 0, none⟩) L.length cp) L ∧ Below w.heap.size w wr) (fun i _ => L.length - (intOf i).toNat)
  case atStart => exact ⟨0, by omega, rfl, j4, j0, jB, jb⟩
  case round =>
    clear j4 j0 jB jb
    obtain ⟨k, hk, rfl, j4, j0, jB, jb⟩ := hrel
    by_cases hlt : 64 * k < L.length
    · have hd : decide (64 * (k : Int) < (L.length : Int)) = true := by simp; omega
      have hcall := refBlock_any n (blocks (byteAt L) k) _ gp L.length cp L (64 * k) wr jB rfl (by omega) hll
      rw [show ((64 * k : Nat) : Int) = 64 * (k : Int) by omega] at hcall
      have HC := hide hcall
      clear hcall
      go_wp2_with (refine wpList_load_part rfl 195 _ rfl g4 0 rfl 195 _ 8 8 _ j4 (by omega) Tryz.underlying195 rfl info43 (wv n (blocks (byteAt L) k)) (fun i _ => by rw [Nat.zero_add]) ?_)
      refine HC.out.mono ?_
      rintro e w5 ⟨rfl, hb5⟩
      have j4' := j4.below hb5 j4.lt
      have j0' := j0.below hb5 j0.lt
      have jB' := World.ownsRow.kept (row := none) jB ⟨hb5.os, hb5.tape, hb5.output, hb5.size, fun i hi _ => hb5.block i hi⟩ (.inr (by simp [Value.ownBlock]))
      have jb' := jb.trans (hb5.mono jb.size)
      clear j4 j0 jB jb HC
      go_wp2_with (refine wpList_store_part rfl 195 _ _ rfl rfl g4 0 (wv n (turn (blocks (byteAt L) k) (fun i => byteAt L (64 * k + i)))) 8 rfl rfl 195 _ 8 j4' (by omega) info43 (fun _ _ => rfl) (wv n (blocks (byteAt L) (k + 1))) (fun i hi => by unfold splice; rw [if_pos (by omega), Nat.sub_zero]; rfl) ?_)
      go_roundw
      case rel =>
        refine ⟨k + 1, by omega, by congr 1, j4'.row _ _ rfl, j0'.row_other _ _ (by omega), ?_, below_setRow jb' (by omega) _⟩
        refine World.ownsRow.kept (row := some g4) jB' ⟨rfl, rfl, rfl, by simp, fun i hi hne => setRow_other _ g4 i _ (fun e => hne (by rw [e]))⟩ (.inr ?_)
        simp [Value.ownBlock]; omega
      case measure => simp only [intOf]; omega
    · have hkl : 64 * k = L.length := by omega
      have hd : decide (64 * (k : Int) < (L.length : Int)) = false := by simp; omega
      have hst : blocks (byteAt L) k = stateOf L := by unfold stateOf; rw [← hkl, Nat.mul_div_cancel_left _ (by omega)]
      rw [hst] at j4
      clear hst jB
      go_wp2
      generalize hW : World.alloc wr _ = w4
      have i6 : Has w4 wr.heap.size 23 (bv (toldUp (stateOf L) 0)) 32 := by
        rw [← hW]; exact (Has.new wr 23 (fun _ => .int .u8 0) 32 _ rfl).congr _ (fun i _ => by unfold bv toldUp; rw [if_neg (by omega)]; rfl)
      have i4 : Has w4 g4 195 (wv n (stateOf L)) 8 := by rw [← hW]; exact j4.old _
      have i0 : Has w4 w.heap.size 23 (fun _ => .int .u8 0) 32 := by rw [← hW]; exact j0.old _
      have ib : Below w.heap.size w w4 := by rw [← hW]; exact jb.alloc jb.size _
      have hg6 : g4 < wr.heap.size := j4.lt
      clear hW j4 j0 jb
      generalize stateOf L = st at i6 i4 HS
      generalize wr.heap.size = g6 at i6 hg6 ⊢
      go_loopw [7] (fun i wr => ∃ k : Nat, k ≤ 32 ∧ i = .int .i64 k ∧ Has wr g6 23 (bv (toldUp st k)) 32 ∧ Has wr g4 195 (wv n st) 8 ∧ Has wr w.heap.size 23 (fun _ => .int .u8 0) 32 ∧ Below w.heap.size w wr) (fun i _ => 32 - (intOf i).toNat)
      case atStart => exact ⟨0, by omega, rfl, i6, i4, i0, ib⟩
      case round =>
        clear i6 i4 i0 ib hk hd hlt hkl
        obtain ⟨k, hk, rfl, i6, i4, i0, ib⟩ := hrel
        by_cases hlt : k < 32
        · have c4 := i4.cell (k / 4) (by omega)
          have cw := i6.cell k hlt
          have cf := i6.frozen k
          simp only [wv, bv] at c4 cw
          have hd : decide ((k : Int) < 32) = true := by simp; omega
          have hn0 := n.nonneg (st (k / 4))
          have hn1 := n.lt (st (k / 4))
          go_wp2
          go_roundw
          case rel =>
            refine ⟨k + 1, by omega, by go_num, ?_, i4.other _ _ (by simp; omega), i0.other _ _ (by simp; omega), ib.setCell (by simp; omega) _⟩
            have := i6.set k (.int .u8 ((told st k).toNat : Int))
            rw [bv_upd, toldUp_next] at this
            rw [told_num]
            exact this
          case measure => simp [intOf]; omega
        · have hk32 : k = 32 := by omega
          subst hk32
          go_wp2_with (first | refine wpList_load_part rfl 23 _ rfl g6 0 rfl 23 _ 32 32 _ i6 (by omega) Tryz.underlying23 rfl info26 (bv (told st)) (fun i hi => by rw [Nat.zero_add]; unfold bv toldUp; rw [if_pos hi]) ?_ | refine wpList_store_part rfl 23 _ _ rfl rfl w.heap.size 0 (bv (told st)) 32 rfl rfl 23 _ 32 i0 (by omega) info26 (fun _ _ => rfl) (bv (told st)) (fun i hi => by unfold splice; rw [if_pos (by omega), Nat.sub_zero]) ?_)
          refine bodyPost_ret (results_cell_row rfl _ _ w.heap.size 23 _ (0, 0) _ rfl (i0.row _ _ rfl) Tryz.underlying23 rfl (by rw [tabv_size]; exact info26)) rfl ⟨?_, below_setRow ib (Nat.le_refl _) _⟩
          rw [HS.out]
end Go.Proofs.YtmmcoedgoekhgaaGreatDoor
/-
  The document's Sum of parts.
-/
namespace Go.Proofs.YtmmcoedgoekhgaaGreatDoor
set_option maxRecDepth 20000
open Go.RowKit S
set_option maxHeartbeats 800000 in
theorem refSum_any (n : Num) (a : Option Addr) (cap : Nat) (ss : List ByteArray) (w : World) (hs : Strs w a ss) (hl : (flat ss).length ≤ 140737488355200) (hn : ss.length < 1152921504606846976) :
    Calls Tryz.prog 165 #[.slice a ss.length cap] w fun e w' => e = .returned (.agg (tabv (bv (sha (flat ss))) 32)) ∧ Below w.heap.size w w' := by
  go_enter Tryz.func165, Tryz.ntmps165
  go_wp2
  generalize hW : World.alloc w _ = w3
  have g0 : Has w3 w.heap.size 23 (fun _ => .int .u8 0) 32 := by rw [← hW]; exact Has.new w 23 (fun _ => .int .u8 0) 32 _ rfl
  have gb : Below w.heap.size w w3 := by rw [← hW]; exact (Below.refl _ _).alloc (Nat.le_refl _) _
  clear hW
  go_loopw [4, 3] (fun i v wr => ∃ (k : Nat) (r : ByteArray), k ≤ ss.length ∧ i = .int .i64 k ∧ v = .string r ∧ r.data.toList = flat (ss.take k) ∧ wr = w3) (fun i _ _ => ss.length - (intOf i).toNat)
  case atStart => exact ⟨0, ⟨#[]⟩, by omega, rfl, rfl, by rw [List.take_zero]; rfl, rfl⟩
  case round =>
    obtain ⟨k, r, hk, rfl, rfl, hr, rfl⟩ := hrel
    have hrz : r.size ≤ 140737488355200 := by rw [← str_len, hr]; exact Nat.le_trans (flat_le ss k) hl
    have HR := hide hr
    clear hr
    by_cases hlt : k < ss.length
    · have hd : decide ((k : Int) < (ss.length : Int)) = true := by simp; omega
      have hle := flat_le ss (k + 1)
      have hft := flat_take ss k hlt
      rw [hft, List.length_append, str_len, ← HR.out, str_len] at hle
      rcases hs.below gb with h | ⟨b, o, rfl, hb0, hcs⟩
      · rw [h] at hlt; exact absurd hlt (by simp)
      have hck := hcs k hlt
      have hsz : r.size + ss[k].size ≤ 9223372036854775807 := by omega
      have HF := hide hft
      clear hft hle hcs
      go_wp2
      go_roundw
      case rel => exact ⟨k + 1, r ++ ss[k], by omega, by go_num, rfl, by rw [HF.out, ByteArray.data_append, Array.toList_append, HR.out], by first | rfl | trivial⟩
      case measure => simp [intOf]; omega
    · have hkl : k = ss.length := by omega
      subst hkl
      have hd : decide ((ss.length : Int) < (ss.length : Int)) = false := by simp
      go_wp2_with fail
      refine (refOne_any n r _ hrz).mono ?_
      rintro e w5 ⟨rfl, hb5⟩
      have e1 : r.data.toList = flat ss := by rw [HR.out, List.take_length]
      rw [e1]
      have g0' := g0.below hb5 g0.lt
      have gb' := gb.trans (hb5.mono gb.size)
      go_wp2_with (refine wpList_store_part rfl 23 _ _ rfl rfl w.heap.size 0 (bv (sha (flat ss))) 32 rfl rfl 23 _ 32 g0' (by omega) info26 (fun _ _ => rfl) (bv (sha (flat ss))) (fun i hi => by unfold splice; rw [if_pos (by omega), Nat.sub_zero]) ?_)
      exact bodyPost_ret (results_cell_row rfl _ _ w.heap.size 23 _ (0, 0) _ rfl (g0'.row _ _ rfl) Tryz.underlying23 rfl (by rw [tabv_size]; exact info26)) rfl ⟨rfl, below_setRow gb' (Nat.le_refl _) _⟩
end Go.Proofs.YtmmcoedgoekhgaaGreatDoor
