import Derived.Test.YtmmcoedgoekhgaaGreatDoorSumText
import Derived.ChangeKeysEq
import Derived.Deep.AppendLies
/-
  Hashes against one another.
-/
namespace Go.Proofs.YtmmcoedgoekhgaaGreatDoor
set_option maxRecDepth 20000
open Go.RowKit S
theorem guard26 : Tryz.prog.eqGuardType Tryz.prog.depth 23 = false := by kernel_rfl
theorem all_same (f : Nat → UInt8) : ((List.range 32).all fun i => f i == f i) = true := by simp
end Go.Proofs.YtmmcoedgoekhgaaGreatDoor
/-
  laid, Mac.
-/
namespace Go.Proofs.YtmmcoedgoekhgaaGreatDoor
set_option maxRecDepth 20000
open Go.RowKit S
/-- A key's 64 bytes, laid over by c. -/
def keyed (key : Nat → UInt8) (c : UInt8) : Nat → UInt8 := fun i => (if i < 32 then key i else 0) ^^^ c
def keyL (key : Nat → UInt8) (c : UInt8) : List UInt8 := (List.range 64).map (keyed key c)
def shaL (L : List UInt8) : List UInt8 := (List.range 32).map (sha L)
def mac (key : Nat → UInt8) (t : List UInt8) : Nat → UInt8 := sha (keyL key 0x5c ++ shaL (keyL key 0x36 ++ t))
theorem u8_xor_byte (x y : UInt8) : bits .xor .u8 (x.toNat : Int) (y.toNat : Int) = ((x ^^^ y).toNat : Int) := by
  rw [u8_xor_nat x.toNat y.toNat x.toNat_lt y.toNat_lt, UInt8.toNat_xor]
def over (kb : Nat → UInt8) (c : UInt8) (k : Nat) : Nat → UInt8 := fun i => if i < k then kb i ^^^ c else kb i
theorem over_next (kb : Nat → UInt8) (c : UInt8) (k : Nat) : upd (over kb c k) k (kb k ^^^ c) = over kb c (k + 1) := by
  funext i; unfold upd over
  by_cases e : i = k
  · subst e; rw [if_pos rfl, if_pos (by omega)]
  · rw [if_neg e]; by_cases h : i < k
    · rw [if_pos h, if_pos (by omega)]
    · rw [if_neg h, if_neg (by omega)]
/-- copy(dst, src), both in blocks, the same number of cells or fewer. -/
theorem run_copy_has (w : World) (ty : TypeId) (g dLen dCap g' sLen sCap : Nat) (t t' : TypeId) (f f' : Nat → Value) (M M' m : Nat) (hm : m = Nat.min sLen dLen) (hg : Has w g t f M) (hg' : Has w g' t' f' M') (h1 : m ≤ M) (h2 : m ≤ M') (h3 : ∀ i, i < m → (f' i).oneCell' = true) :
    (Builtin.copy_ #[150, 150] ty #[.slice (some ⟨g, 0, none⟩) dLen dCap, .slice (some ⟨g', 0, none⟩) sLen sCap]).run Tryz.prog w = .ok (goInt m) (w.setRow g (tabv (splice f 0 f' m) M)) := by
  have hs : (Tryz.prog.info? 5).map (·.size) = some 1 := by kernel_rfl
  have hl : (tabv f' m).toList.length = m := by simp [tabv]
  have hr := run_copy_row (P := Tryz.prog) w 150 150 ty 5 g 0 dLen dCap ⟨g', 0, none⟩ sLen sCap (tabv f M) t (tabv f' m).toList Tryz.underlying150 hs hg (by rw [hl, hm]) (fun j v hv => by
    have hj : j < m := by
      have := (List.getElem?_eq_some_iff.1 hv).1
      rwa [hl] at this
    have hadd : (⟨g', 0, none⟩ : Addr).add j = ⟨g', j, none⟩ := by unfold Addr.add; split <;> simp_all
    rw [hadd, hg'.cell j (by omega)]
    rw [Array.getElem?_toList, tabv_get _ _ _ hj] at hv
    exact hv) (by rw [hl, tabv_size]; omega) (fun v hv => by
      simp only [tabv, List.mem_map, List.mem_range] at hv
      obtain ⟨i, hi, rfl⟩ := hv
      exact h3 i hi)
  have e := tabv_splice f f' 0 m M (by omega)
  rw [e, hl] at hr
  exact hr
theorem wpList_copy_has {ops : Array Oper} {rest : List Oper} {o : Oper} {a : Act} {w : World} {Q : Exit → Act → World → Prop} (hgd : o.guard = none) (d s : Operand)
    (ho : o.op = .call { callee := .builtin .copy, args := #[d, s], argTypes := #[150, 150] }) (g dLen dCap g' sLen sCap : Nat) (hd : a.eval d = .slice (some ⟨g, 0, none⟩) dLen dCap) (hs : a.eval s = .slice (some ⟨g', 0, none⟩) sLen sCap)
    (t t' : TypeId) (f f' : Nat → Value) (M M' m : Nat) (hm : m = Nat.min sLen dLen) (hg : Has w g t f M) (hg' : Has w g' t' f' M') (h1 : m ≤ M) (h2 : m ≤ M') (h3 : ∀ i, i < m → (f' i).oneCell' = true) (f2 : Nat → Value) (hf : ∀ i, i < M → splice f 0 f' m i = f2 i)
    (h : wpList Tryz.prog ops Q rest (a.put o.dst (.int .i64 (m : Int))) (w.setRow g (tabv f2 M))) : wpList Tryz.prog ops Q (o :: rest) a w := by
  have hr := run_copy_has w o.type g dLen dCap g' sLen sCap t t' f f' M M' m hm hg hg' h1 h2 h3
  rw [tabv_congr _ f2 M hf] at hr
  refine wpList_plain hgd fun K hK => ?_
  unfold Oper.wp execOp
  simp only [ho, resolve, invoke, builtin, Sem.run_bind, Sem.run_pure, Result.andThen_ok, List.map_toArray, List.map_cons, List.map_nil, hd, hs, hr]
  exact hK _ _ h
set_option maxHeartbeats 800000 in
theorem laid_any (key : Nat → UInt8) (c : UInt8) (C : Int) (hC : C = (c.toNat : Int)) (w : World) :
    Calls Tryz.prog 155 #[.agg (tabv (bv key) 32), .int .u8 C] w fun e w' => e = .returned (.string (strOf (keyed key c) 64)) ∧ Below w.heap.size w w' := by
  subst hC
  go_enter Tryz.func155, Tryz.ntmps155
  go_wp2
  generalize hW : World.alloc (World.alloc w _) _ = w3
  have g0 : Has w3 w.heap.size 23 (bv key) 32 := by rw [← hW]; exact (Has.new w 23 (bv key) 32 _ rfl).old _
  have g1 : Has w3 (w.heap.size + 1) 196 (fun _ => .int .u8 0) 64 := by
    rw [← hW]
    have := Has.new (w.alloc (.cells (tabv (bv key) 32) 23)) 196 (fun _ => .int .u8 0) 64 _ rfl
    rw [size_alloc] at this
    exact this
  have gb : Below w.heap.size w w3 := by rw [← hW]; exact ((Below.refl w.heap.size w).alloc (Nat.le_refl _) _).alloc (by simp) _
  clear hW
  refine wp_region_drew_tail 2 (by kernel_rfl) (by kernel_rfl) ?_
  simp only [List.take_succ_cons, List.take_zero, List.drop_succ_cons, List.drop_zero]
  repeat (go_big_quiet_step (fail))
  refine wpQuiet_nil ?_
  intro _ hw'
  obtain ⟨nq, rfl⟩ := hw'
  refine wpList_copy_has rfl _ _ rfl (w.heap.size + 1) 64 64 w.heap.size 32 32 rfl rfl 196 23 _ _ 64 32 32 rfl (g1.drewN nq) (g0.drewN nq) (by omega) (by omega) (fun _ _ => rfl) (bv (over (fun i => if i < 32 then key i else 0) c 0)) (fun i hi => by unfold splice bv over; simp only [Nat.zero_le, Nat.zero_add, true_and, Nat.sub_zero, Nat.not_lt_zero, if_false]; split <;> rfl) ?_
  go_wp2
  have g2 := (g1.drewN nq).row _ (bv (over (fun i => if i < 32 then key i else 0) c 0)) rfl
  have gb2 := below_setRow (below_drewN gb nq) (show w.heap.size ≤ w.heap.size + 1 by omega) (tabv (bv (over (fun i => if i < 32 then key i else 0) c 0)) 64)
  generalize World.setRow _ _ _ = w4 at g2 gb2 ⊢
  clear g0 g1 gb
  obtain ⟨kb, hkb⟩ : ∃ kb : Nat → UInt8, (fun i => if i < 32 then key i else 0) = kb := ⟨_, rfl⟩
  rw [hkb] at g2
  have HK := hide hkb
  clear hkb
  go_loopw [10] (fun i wr => ∃ k : Nat, k ≤ 64 ∧ i = .int .i64 k ∧ Has wr (w.heap.size + 1) 196 (bv (over kb c k)) 64 ∧ Below w.heap.size w wr) (fun i _ => 64 - (intOf i).toNat)
  case atStart => exact ⟨0, by omega, rfl, g2, gb2⟩
  case round =>
    clear g2 gb2
    obtain ⟨k, hk, rfl, g2, gb⟩ := hrel
    by_cases hlt : k < 64
    · have cw := g2.cell k hlt
      have cf := g2.frozen k
      have ce : over kb c k k = kb k := by unfold over; rw [if_neg (by omega)]
      simp only [bv, ce] at cw
      have hd : decide ((k : Int) < 64) = true := by simp; omega
      go_wp2
      go_roundw
      case rel =>
        refine ⟨k + 1, by omega, by go_num, ?_, gb.setCell (by simp) _⟩
        have := g2.set k (.int .u8 ((kb k ^^^ c).toNat : Int))
        rw [bv_upd, over_next] at this
        rw [u8_xor_byte]
        exact this
      case measure => simp [intOf]; omega
    · have hk64 : k = 64 := by omega
      subst hk64
      have hcv := run_conv g2 64 64 (Nat.le_refl _)
      go_wp2
      go_ret
      refine ⟨?_, gb⟩
      have e : strOf (over kb c 64) 64 = strOf (keyed key c) 64 := by
        unfold strOf; congr 2
        refine List.map_congr_left fun i hi => ?_
        unfold over keyed
        rw [if_pos (List.mem_range.1 hi), ← HK.out]
      rw [e]
      rfl
theorem Strs.mk (w : World) (t : TypeId) (ss : List ByteArray) : Strs (w.alloc (.cells (ss.map Value.string).toArray t)) (some ⟨w.heap.size, 0, none⟩) ss := by
  refine .inr ⟨w.heap.size, 0, rfl, by simp, fun i hi => ?_⟩
  rw [Nat.zero_add, cell_of_row _ w.heap.size i _ t (0, 0) (heap_alloc_new w _)]
  simp [hi]
theorem flat_two (s t : ByteArray) : flat [s, t] = s.data.toList ++ t.data.toList := by simp [flat]
set_option maxHeartbeats 800000 in
theorem mac_any (n : Num) (key : Nat → UInt8) (s : ByteArray) (w : World) (hG : Glob n w) (hl : s.size < 1152921504606840000) :
    Calls Tryz.prog 103 #[.agg (tabv (bv key) 32), .string s] w fun e w' => e = .returned (.agg (tabv (bv (mac key s.data.toList)) 32)) ∧ Below w.heap.size w w' := by
  have h0 : Has ((w.alloc (.cells (tabv (bv key) 32) 23)).alloc (.cells (tabv (fun _ => .int .u8 0) 32) 23)) w.heap.size 23 (bv key) 32 := (Has.new w 23 (bv key) 32 _ rfl).old _
  have h1 : Has ((w.alloc (.cells (tabv (bv key) 32) 23)).alloc (.cells (tabv (fun _ => .int .u8 0) 32) 23)) (w.heap.size + 1) 23 (fun _ => .int .u8 0) 32 := by
    have := Has.new (w.alloc (.cells (tabv (bv key) 32) 23)) 23 (fun _ => .int .u8 0) 32 _ rfl
    rw [size_alloc] at this
    exact this
  have hb : Below w.heap.size w ((w.alloc (.cells (tabv (bv key) 32) 23)).alloc (.cells (tabv (fun _ => .int .u8 0) 32) 23)) := ((Below.refl w.heap.size w).alloc (Nat.le_refl _) _).alloc (by simp) _
  have H0 := hide h0
  have H1 := hide h1
  clear h0 h1
  go_enter Tryz.func103, Tryz.ntmps103
  go_wp2_with (refine wpList_load_part rfl 23 _ rfl w.heap.size 0 rfl 23 _ 32 32 _ H0.out (by omega) Tryz.underlying23 rfl info26 (bv key) (fun i _ => by rw [Nat.zero_add]) ?_)
  refine (laid_any key 0x36 54 rfl _).mono ?_
  rintro e w1 ⟨rfl, hb1⟩
  have k0 := H0.out.below hb1 H0.out.lt
  have k1 := H1.out.below hb1 H1.out.lt
  have kb := hb.trans (hb1.mono hb.size)
  clear H0 H1 hb hb1
  go_wp2_with fail
  have kG := hG.below kb hG.2.2
  have mb : Below w1.heap.size w1 (w1.alloc (.cells #[.string (strOf (keyed key 54) 64), .string s] 9)) := (Below.refl _ _).alloc (Nat.le_refl _) _
  refine (sum_any n (some ⟨w1.heap.size, 0, none⟩) 2 [strOf (keyed key 54) 64, s] _ (kG.below mb kG.2.2) (Strs.mk w1 9 [strOf (keyed key 54) 64, s]) (by rw [flat_two, List.length_append, str_len, str_len, strOf_size]; omega) (by simp)).mono ?_
  rintro e w2 ⟨rfl, hb2⟩
  rw [flat_two, strOf_list, show (List.range 64).map (keyed key 54) = keyL key 54 from rfl]
  have mb2 := mb.trans (hb2.mono mb.size)
  have k0' := k0.below mb2 k0.lt
  have k1' := k1.below mb2 k1.lt
  have kb' := kb.trans (mb2.mono kb.size)
  have kG' := hG.below kb' hG.2.2
  clear k0 k1 kb mb mb2 hb2 kG
  have hn := Has.new w2 23 (fun _ => .int .u8 0) 32 _ rfl
  have HN := hide hn
  clear hn
  go_wp2_with (refine wpList_store_part rfl 23 _ _ rfl rfl w2.heap.size 0 (bv (sha (keyL key 54 ++ s.data.toList))) 32 rfl rfl 23 _ 32 HN.out (by omega) info26 (fun _ _ => rfl) (bv (sha (keyL key 54 ++ s.data.toList))) (fun i hi => by unfold splice; rw [if_pos (by omega), Nat.sub_zero]) ?_)
  generalize hW : World.setRow (World.alloc w2 _) _ _ = w3
  have j2 : Has w3 w2.heap.size 23 (bv (sha (keyL key 54 ++ s.data.toList))) 32 := by rw [← hW]; exact HN.out.row _ _ rfl
  have jb : Below w2.heap.size w2 w3 := by rw [← hW]; exact below_setRow ((Below.refl _ _).alloc (Nat.le_refl _) _) (Nat.le_refl _) _
  have j0 := k0'.below jb k0'.lt
  have j1 := k1'.below jb k1'.lt
  have jb' := kb'.trans (jb.mono kb'.size)
  have jG := hG.below jb' hG.2.2
  clear hW HN k0' k1' kb' jb kG'
  generalize w2.heap.size = g2 at j2 ⊢
  have hall : ∀ p : Prop, (∀ w', Below w3.heap.size w3 w' → p) = p := fun p => propext ⟨fun h => h w3 (Below.refl _ _), fun h _ _ => h⟩
  have J0 := hide j0
  have J1 := hide j1
  have J2 := hide j2
  clear j0 j1 j2
  refine wp_region_quiet_tail (fun w' => Below w3.heap.size w3 w') 4 (by kernel_rfl) (by kernel_rfl) ((Below.refl _ _).drew) ?_
  simp only [List.take_succ_cons, List.take_zero, List.drop_succ_cons, List.drop_zero]
  go_big_quiet_want
  refine quiet_value (fun w' hw' => run_load_part w' 23 _ rfl w.heap.size 0 rfl 23 _ 32 32 _ (J0.out.below hw' J0.out.lt) (by omega) Tryz.underlying23 rfl info26 (bv key) (fun i hi => by rw [Nat.zero_add])) ?_
  simp only [Act.put, List.setIfInBounds_toArray, List.set_cons_succ, List.set_cons_zero]
  go_big_quiet_on
  go_big_quiet_want
  refine quiet_enter (f := 155) (args := #[.agg (tabv (bv key) 32), .int .u8 92]) (v := .string (strOf (keyed key 0x5c) 64)) (fun w' hw' => by first | rfl | (go_simp; done) | (go_simp; rfl)) (fun w' hw' => (laid_any key 0x5c 92 rfl w').mono fun e w2 ⟨h1, h2⟩ => ⟨h1, hw'.trans (h2.mono hw'.size)⟩) ?_
  simp only [Act.put, List.setIfInBounds_toArray, List.set_cons_succ, List.set_cons_zero]
  go_big_quiet_on
  go_big_quiet_step (fail)
  go_big_quiet_want
  refine quiet_value (v := .string (strOf (sha (keyL key 54 ++ s.data.toList)) 32)) (fun w' hw' => ?_) ?_
  · have hcv := run_conv (J2.out.below hw' J2.out.lt) 32 32 (Nat.le_refl _)
    go_simp
  simp only [Act.put, List.setIfInBounds_toArray, List.set_cons_succ, List.set_cons_zero]
  go_big_quiet_on
  refine wpQuiet_nil ?_
  intro w' hw'
  have j1 := J1.out.below hw' J1.out.lt
  have jb2 := jb'.trans (hw'.mono jb'.size)
  have jG2 := hG.below jb2 hG.2.2
  clear J0 J1 J2 jG hall
  go_wp2_with fail
  have mb : Below w'.heap.size w' (w'.alloc (.cells #[.string (strOf (keyed key 92) 64), .string (strOf (sha (keyL key 54 ++ s.data.toList)) 32)] 9)) := (Below.refl _ _).alloc (Nat.le_refl _) _
  refine (sum_any n (some ⟨w'.heap.size, 0, none⟩) 2 [strOf (keyed key 92) 64, strOf (sha (keyL key 54 ++ s.data.toList)) 32] _ (jG2.below mb jG2.2.2) (Strs.mk w' 9 [strOf (keyed key 92) 64, strOf (sha (keyL key 54 ++ s.data.toList)) 32]) (by rw [flat_two, List.length_append, str_len, str_len, strOf_size, strOf_size]; omega) (by simp)).mono ?_
  rintro e w4 ⟨rfl, hb4⟩
  rw [flat_two, strOf_list, strOf_list, show (List.range 64).map (keyed key 92) = keyL key 92 from rfl, show (List.range 32).map (sha (keyL key 54 ++ s.data.toList)) = shaL (keyL key 54 ++ s.data.toList) from rfl, show sha (keyL key 92 ++ shaL (keyL key 54 ++ s.data.toList)) = mac key s.data.toList from rfl]
  have mb2 := mb.trans (hb4.mono mb.size)
  have j1' := j1.below mb2 j1.lt
  have jb3 := jb2.trans (mb2.mono jb2.size)
  go_wp2_with (refine wpList_store_part rfl 23 _ _ rfl rfl (w.heap.size + 1) 0 (bv (mac key s.data.toList)) 32 rfl rfl 23 _ 32 j1' (by omega) info26 (fun _ _ => rfl) (bv (mac key s.data.toList)) (fun i hi => by unfold splice; rw [if_pos (by omega), Nat.sub_zero]) ?_)
  exact bodyPost_ret (results_cell_row rfl _ _ (w.heap.size + 1) 23 _ (0, 0) _ rfl (j1'.row _ _ rfl) Tryz.underlying23 rfl (by rw [tabv_size]; exact info26)) rfl ⟨rfl, below_setRow jb3 (by omega) _⟩
end Go.Proofs.YtmmcoedgoekhgaaGreatDoor
/-
  Slices of bytes that the call makes: append a byte; string(b). The law's bytes and the document's Bytes, Pad.
-/
namespace Go.Proofs.YtmmcoedgoekhgaaGreatDoor
set_option maxRecDepth 20000
open Go.RowKit S
def byteV (c : UInt8) : Value := .int .u8 (c.toNat : Int)
/-- v is a slice of the bytes l, in memory of the call's own, from block B on. -/
def Bytes (w : World) (B : Nat) (v : Value) (l : List UInt8) : Prop := w.ownsRow B 5 1 v l.length (l.map byteV)
theorem info5 : (Tryz.prog.info? 5).map (fun i => (i.zero, i.size, i.bytes)) = some (some (.int .u8 0), 1, 1) := by kernel_rfl
theorem Bytes.nil (w : World) (B : Nat) : Bytes w B (.slice none 0 0) [] := World.ownsRow_nil w B 5 1
theorem grown_below {w w' : World} {row : Option Nat} {B : Nat} (hg : w.grownBy w' row) (hr : ∀ k, row = some k → B ≤ k) (hB : B ≤ w.heap.size) : Below B w w' :=
  ⟨hg.os, hg.tape, hg.output, hg.size, fun k hk => hg.block k (by omega) (fun e => by have := hr k e.symm; omega)⟩
theorem grown_alloc (w : World) (o : Obj) (row : Option Nat) : w.grownBy (w.alloc o) row :=
  ⟨rfl, rfl, rfl, by simp, fun i hi _ => Below.heap_alloc w o i hi⟩
theorem Bytes.block {w : World} {B : Nat} {v : Value} {l : List UInt8} (h : Bytes w B v l) : ∀ k, v.ownBlock = some k → B ≤ k := fun k hk => (World.ownsRow.lt h k hk).1
theorem wpList_append_byte {ops : Array Oper} {rest : List Oper} {o : Oper} {a : Act} {w w0 : World} {Q : Exit → Act → World → Prop} (hgd : o.guard = none) (s x : Operand)
    (ho : o.op = .call { callee := .builtin .append, args := #[s, x], argTypes := #[150, 150] }) (B : Nat) (v : Value) (l : List UInt8) (c : UInt8) (X : Int) (hX : X = (c.toNat : Int)) (hs : a.eval s = v) (hown : Bytes w0 B v l)
    (hx : a.eval x = .slice (some ⟨w0.heap.size, 0, none⟩) 1 1) (hw : w = w0.alloc (.cells #[.int .u8 X] 5)) (hlen : l.length + 1 ≤ 140737488355328) (hB : B ≤ w0.heap.size)
    (h : ∀ g cap w', Bytes w' B (.slice (some ⟨g, 0, none⟩) (l.length + 1) cap) (l ++ [c]) → w0.grownBy w' v.ownBlock → (v.ownBlock = some g ∨ g = w0.heap.size + 1) → wpList Tryz.prog ops Q rest (a.put o.dst (.slice (some ⟨g, 0, none⟩) (l.length + 1) cap)) w') : wpList Tryz.prog ops Q (o :: rest) a w := by
  subst hX hw
  have hh := info5
  cases hq : Tryz.prog.info? 5 with
  | none => rw [hq] at hh; cases hh
  | some i =>
    rw [hq] at hh
    simp only [Option.map_some, Option.some.injEq, Prod.mk.injEq] at hh
    obtain ⟨hz0, hz1, hz2⟩ := hh
    have hown' : (w0.alloc (.cells #[.int .u8 (c.toNat : Int)] 5)).ownsRow B 5 1 v l.length (l.map byteV) := World.ownsRow.kept hown (grown_alloc w0 _ none) (by cases v.ownBlock <;> simp)
    refine wpList_append_lies (P := Tryz.prog) _ hgd s x 150 ho B 5 i (.int .u8 0) 1 1 Tryz.underlying150 hq hz0 hz1 hz2 rfl (by omega) v l.length (l.map byteV) hs hown' ⟨w0.heap.size, 0, none⟩ 1 1 [byteV c] hx rfl ?_ ?_ (by omega) (by unfold maxLen; omega) (by omega) (by simp; omega) (w0.heap.size + 1) (by simp) ?_
    · intro j u hu
      exact World.news_of_block (heap_alloc_new w0 _) j u hu
    · intro u hu
      simp at hu; subst hu; rfl
    · intro g cap w' h1 h2 h3 h4
      refine h g cap w' ?_ ((grown_alloc w0 _ v.ownBlock).trans h2) h3
      unfold Bytes
      rw [List.length_append, List.map_append]
      exact h1
/-- Cell i of the slice. -/
theorem Bytes.cells {w : World} {B g n cap : Nat} {l : List UInt8} (h : Bytes w B (.slice (some ⟨g, 0, none⟩) n cap) l) (i : Nat) (hi : i < l.length) : w.cell? ⟨g, i, none⟩ = some (byteV (byteAt l i)) := by
  rcases h.2 with ⟨h1, _⟩ | ⟨g', cap', cur, h1, hb, hg, hnc, hcm, hcs, htake⟩
  · cases h1
  · simp only [Value.slice.injEq, Option.some.injEq, Addr.mk.injEq, and_true] at h1
    obtain ⟨rfl, rfl, rfl⟩ := h1
    rw [cell_of_row w g i cur 5 (0, 0) hg]
    rw [Nat.mul_one] at htake
    have e : (cur.toList.take l.length)[i]? = (l.map byteV)[i]? := by rw [htake]
    rw [List.getElem?_take_of_lt hi, List.getElem?_map, List.getElem?_eq_getElem hi, Array.getElem?_toList] at e
    rw [e]
    unfold byteAt
    rw [List.getD_eq_getElem?_getD, List.getElem?_eq_getElem hi]
    rfl
theorem Bytes.conv {w : World} {B g n cap : Nat} {l : List UInt8} (h : Bytes w B (.slice (some ⟨g, 0, none⟩) n cap) l) (hn : n = l.length) : (convert 150 9 (.slice (some ⟨g, 0, none⟩) n cap)).run Tryz.prog w = .ok (.string ⟨l.toArray⟩) w := by
  subst hn
  have hr := run_convert_bytes_arg w 150 5 Tryz.underlying150 Tryz.underlying5 g 0 l.length cap (l.map fun c => (c.toNat : Int)) (by simp) (fun i hi => by
    rw [Nat.zero_add, h.cells i hi]
    unfold byteAt byteV
    rw [List.getD_eq_getElem?_getD, List.getElem?_eq_getElem hi]
    simp [hi]) 9 Tryz.underlying9
  have e : strOfNums (l.map fun c => (c.toNat : Int)) = ⟨l.toArray⟩ := by
    simp only [strOfNums, List.map_map, Function.comp_def, Int.toNat_natCast]
    simp
  rw [hr, e]
theorem range_snoc {α : Type} (f : Nat → α) (k : Nat) : (List.range k).map f ++ [f k] = (List.range (k + 1)).map f := by rw [List.range_succ, List.map_append]; rfl
-- left out in this seat: lawBytes_any
end Go.Proofs.YtmmcoedgoekhgaaGreatDoor
