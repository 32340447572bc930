import Derived.Test.YtlohfoggcdaeiaaGreatRDV2
import Derived.Deep.DeepCutAuto
import Derived.Deep.Cut
import Derived.Test.YtlohfoggcdaeiaaGreatRDV5
import Derived.Test.YtlohfoggcdaeiaaGreatCurHashRead
/-
  The document's Valid of a record, kind 6 (printed by gen_r31.py).
-/
namespace Go.Proofs.YtlohfoggcdaeiaaGreat
open Go.RowKit S
set_option linter.unusedVariables false
set_option linter.unusedSimpArgs false
open Cu (nb be hl ofL CW Mw CR Mr RS takeS takeA hOf nil8 doneS)
set_option maxRecDepth 100000 in
set_option maxHeartbeats 40000000 in
theorem dvalid_6 (r : Rc) (l : List Upd) (hk : r.kind = 6) (hn0 : l.length = r.upds.n) (hz : r.upds.n ≤ 140737488351232) (w : World) (hS : Upds w r.upds.ad l) : Calls Tryz.prog 34 #[.agg (tabv r.v 138)] w fun e w' => e = .returned (.bool (validR r l)) ∧ Below w.heap.size w w' := by
  obtain ⟨w1, hW1⟩ : ∃ wX, w.alloc (.cells (tabv r.v 138) 38) = wX := ⟨_, rfl⟩
  have r1 : Has w1 w.heap.size 38 r.v 138 := by rw [← hW1]; exact Has.new w 38 r.v 138 _ rfl
  have b1 : Below w.heap.size w w1 := by rw [← hW1]; exact (Below.refl w.heap.size w).alloc (Nat.le_refl _) _
  obtain ⟨w2, w3, hW2, q2, hW3, q3, b3⟩ := newRc w1 ⟨6, Upd.zero, nilS, 0, 0, 0, z32, z32, z32, 0⟩
  have Q2 := hide q2
  have B3 : Below w.heap.size w w3 := b1.trans (b3.mono b1.size)
  have r3 := r1.below b3 r1.lt
  have c0 : w1.cell? ⟨w.heap.size, 0, none⟩ = some (.int .i64 6) := by rw [r1.cell 0 (by omega), ← hk]; rfl
  have cc0 : w3.cell? ⟨w.heap.size, 0, none⟩ = some (.int .i64 6) := by rw [r3.cell 0 (by omega), ← hk]; rfl
  go_enter Tryz.func34, Tryz.ntmps34
  go_upto_region 2 with (first | rw [hW1] | rw [hW3] | (go_big_may; first | refine wpW_build (by rfl) 38 #[(0, .tmp 6)] rfl [(0, .int .i64 6)] (by first | rfl | (simp [Act.eval, Act.put]; done)) _ (builtRK 6) ?_ | refine wpList_storeRc rfl _ _ rfl rfl (w1.heap.size) (⟨6, Upd.zero, nilS, 0, 0, 0, z32, z32, z32, 0⟩) rfl rfl _ Q2.out ?_) | fail)
  try rw [hW3]
  have HS1 : Hid (w.heap.size < w1.heap.size) := r1.lt
  generalize hgx : w.heap.size = g at r3 B3 cc0 HS1 ⊢
  generalize hg3 : w1.heap.size = g3 at q3 HS1 ⊢
  have HGX := hide hgx
  clear hW1 hW2 hW3 Q2 q2 b1 r1 c0 b3 hg3 hgx
  have HV : Hid (validR r l = (sameD r (nam r) && ixB r)) := by
    show _ = _
    rw [valid_doc r l (by omega), show askD r l = true by unfold askD; rw [hk]; exact rfl, Bool.true_and]
  have HU : Hid (∀ wx : World, Below g w wx → (r.upds.n = (nam r).upds.n → ∃ l : List Upd, l.length = r.upds.n ∧ Upds wx r.upds.ad l ∧ Upds wx (nam r).upds.ad l)) := fun wx hb hn => ⟨[], by rw [hn]; unfold nam; rw [hk]; rfl, .inl rfl, .inl rfl⟩
  have EN : Hid (nam r = ⟨6, Upd.zero, nilS, r.idx, 0, 0, z32, z32, z32, 0⟩) := by show _ = _; unfold nam; rw [hk]; rfl
  have ci1 : w3.cell? ⟨g, 38, none⟩ = some (.int .i64 r.idx) := r3.cell 38 (by omega)
  have cj1 : w3.cell? ⟨g3, 38, none⟩ = some (.int .i64 0) := q3.cell 38 (by omega)
  have cf1 := q3.frozen 38
  obtain ⟨u1, hU1⟩ : ∃ y, w3.setCell ⟨g3, 38, none⟩ (.int .i64 r.idx) = y := ⟨_, rfl⟩
  have ru1 : Has u1 g 38 r.v 138 := by rw [← hU1]; exact r3.other _ _ (by show g ≠ g3; exact Nat.ne_of_lt HS1.out)
  have qu1 : Has u1 g3 38 (Rc.v ⟨6, Upd.zero, nilS, r.idx, 0, 0, z32, z32, z32, 0⟩) 138 := by rw [← hU1]; exact q3.rIdx r.idx
  have Bu1 : Below g w u1 := by rw [← hU1]; exact B3.setCell (Nat.le_of_lt HS1.out) _
  go_upto_region 34 with (first | rw [hU1] | fail)
  try rw [hU1]
  clear ci1 cj1 cf1 hU1
  have q9 : Has u1 g3 38 (nam r).v 138 := by rw [EN.out]; exact qu1
  clear r3 q3 B3 cc0 qu1
  have SD := hide (dsame_any r (nam r) hz u1 (HU.out u1 Bu1))
  have R1 := hide (ru1)
  have R3 := hide (q9)
  go_wp2_with (first | refine wpW_load_at 38 _ rfl (g) (0) (by rfl) (by rfl) _ 138 _ (R1.out.at_ 0 (by omega) (fun i hi => by rw [Nat.zero_add])) Tryz.underlying38 rfl infoRc ?_ | refine wpW_load_at 38 _ rfl (g3) (0) (by rfl) (by rfl) _ 138 _ (R3.out.at_ 0 (by omega) (fun i hi => by rw [Nat.zero_add])) Tryz.underlying38 rfl infoRc ?_ | fail)
  refine SD.out.mono ?_
  rintro e wS ⟨rfl, hbS⟩
  have c38 : wS.cell? ⟨g, 38, none⟩ = some (.int .i64 r.idx) := (R1.out.below hbS R1.out.lt).cell 38 (by omega)
  have BS : Below g w wS := Bu1.trans (hbS.mono (Nat.le_of_lt R1.out.lt))
  clear SD R1 R3 hbS
  obtain ⟨SB, hSB⟩ : ∃ b, sameD r (nam r) = b := ⟨_, rfl⟩
  rw [hSB] at HV ⊢
  cases SB with
  | false =>
    go_wp2
    go_ret
    exact ⟨by rw [HV.out, Bool.false_and]; rfl, by rw [HGX.out]; exact BS⟩
  | true =>
    by_cases i0 : 0 ≤ r.idx
    · have d0 : decide (0 ≤ r.idx) = true := decide_eq_true i0
      have d0' : decide (r.idx ≥ 0) = true := decide_eq_true i0
      by_cases i1 : r.idx ≤ 281474976710655
      · have d1 : decide (r.idx ≤ 281474976710655) = true := decide_eq_true i1
        have EV : Hid (validR r l = true) := by show _ = _; rw [HV.out]; unfold ixB; rw [d0, d1]; rfl
        clear i0 i1
        go_wp2
        go_ret
        exact ⟨by first | (rw [EV.out]; done) | (rw [EV.out]; rfl), by rw [HGX.out]; exact BS⟩
      · have d1 : decide (r.idx ≤ 281474976710655) = false := decide_eq_false i1
        have EV : Hid (validR r l = false) := by show _ = _; rw [HV.out]; unfold ixB; rw [d0, d1]; rfl
        clear i0 i1
        go_wp2
        go_ret
        exact ⟨by first | (rw [EV.out]; done) | (rw [EV.out]; rfl), by rw [HGX.out]; exact BS⟩
    · have d0 : decide (0 ≤ r.idx) = false := decide_eq_false i0
      have d0' : decide (r.idx ≥ 0) = false := decide_eq_false i0
      have EV : Hid (validR r l = false) := by show _ = _; rw [HV.out]; unfold ixB; rw [d0]; rfl
      clear i0
      go_wp2
      go_ret
      exact ⟨by first | (rw [EV.out]; done) | (rw [EV.out]; rfl), by rw [HGX.out]; exact BS⟩
end Go.Proofs.YtlohfoggcdaeiaaGreat
/-
  The document's Valid of a record (printed by gen_r31.py).
-/
namespace Go.Proofs.YtlohfoggcdaeiaaGreat
open Go.RowKit S
set_option linter.unusedVariables false
set_option linter.unusedSimpArgs false
open Cu (nb be hl ofL CW Mw CR Mr RS takeS takeA hOf nil8 doneS)
theorem dvalid_any (r : Rc) (l : List Upd) (hn0 : l.length = r.upds.n) (hz : r.upds.n ≤ 140737488351232) (w : World) (hS : Upds w r.upds.ad l) : Calls Tryz.prog 34 #[.agg (tabv r.v 138)] w fun e w' => e = .returned (.bool (validR r l)) ∧ Below w.heap.size w w' := by
  by_cases hk : 1 ≤ r.kind ∧ r.kind ≤ 6
  · have : r.kind = 1 ∨ r.kind = 2 ∨ r.kind = 3 ∨ r.kind = 4 ∨ r.kind = 5 ∨ r.kind = 6 := by omega
    rcases this with h | h | h | h | h | h
    · exact dvalid_1 r l h hn0 hz w hS
    · exact dvalid_2 r l h hn0 hz w hS
    · exact dvalid_3 r l h hn0 hz w hS
    · exact dvalid_4 r l h hn0 hz w hS
    · exact dvalid_5 r l h hn0 hz w hS
    · exact dvalid_6 r l h hn0 hz w hS
  · exact dvalid_0 r l hk w
end Go.Proofs.YtlohfoggcdaeiaaGreat
/-
  Steps that may be guarded, with their answers given.
-/
namespace Go.Proofs.YtlohfoggcdaeiaaGreat.Cu
set_option maxRecDepth 20000
open Go.RowKit
section
variable {P : Program} {ops : Array Oper} {rest : List Oper} {o : Oper} {a : Act} {w : World} {Q : Exit → Act → World → Prop}
theorem wpW_bin (op : BinOp) (t : TypeId) (x y : Operand) (u : TypeId) (ho : o.op = .binOp op t x y u) (X Y r : Value) (hx : a.eval x = X) (hy : a.eval y = Y) (hw : Region.wanted o (yielded ops a.tmps) = true) (hq : eqGuard op t x y X Y = pure ()) (hr : (binOp op t X Y).run P w = .ok r w)
    (h : wpList P ops Q rest (a.put o.dst r) w) : wpList P ops Q (o :: rest) a w := by
  refine wpList_step fun K hK => ?_
  rw [if_pos hw]
  unfold Oper.wp execOp
  simp only [ho, hx, hy, hq, hr, Sem.run_bind, Sem.run_pure, Result.andThen_ok]
  exact hK _ _ h
theorem wpW_conv (s d : TypeId) (x : Operand) (ho : o.op = .convert s d x) (X r : Value) (hx : a.eval x = X) (hw : Region.wanted o (yielded ops a.tmps) = true) (hr : (convert s d X).run P w = .ok r w)
    (h : wpList P ops Q rest (a.put o.dst r) w) : wpList P ops Q (o :: rest) a w := by
  refine wpList_step fun K hK => ?_
  rw [if_pos hw]
  unfold Oper.wp execOp
  simp only [ho, hx, hr, Sem.run_bind, Sem.run_pure, Result.andThen_ok]
  exact hK _ _ h
theorem run_shl (t : TypeId) (k yk : IntKind) (X Y Z : Int) (m : Nat) (hY : Y = (m : Int)) (hm : m ≤ k.bits) (hZ : k.wrap (X * (2 : Int) ^ m) = Z) (w : World) : (binOp .shl t (.int k X) (.int yk Y)).run P w = .ok (.int k Z) w := by
  rw [binOp_shl, shift_shl_any k yk X Y (by omega), hY, Int.toNat_natCast, Nat.min_eq_left hm, hZ]; rfl
theorem run_shr (t : TypeId) (k yk : IntKind) (X Y Z : Int) (m : Nat) (hY : Y = (m : Int)) (hm : m ≤ k.bits) (hZ : X / (2 : Int) ^ m = Z) (w : World) : (binOp .shr t (.int k X) (.int yk Y)).run P w = .ok (.int k Z) w := by
  rw [binOp_shr, shift_shr_any k yk X Y (by omega), hY, Int.toNat_natCast, Nat.min_eq_left hm, hZ]; rfl
theorem run_or (t : TypeId) (k : IntKind) (X Y Z : Int) (hZ : bits .or k X Y = Z) (w : World) : (binOp .or t (.int k X) (.int k Y)).run P w = .ok (.int k Z) w := by
  rw [binOp_or, intBits_or, hZ]; rfl
theorem run_mul (t : TypeId) (k : IntKind) (X Y Z : Int) (hZ : k.wrap (X * Y) = Z) (w : World) : (binOp .mul t (.int k X) (.int k Y)).run P w = .ok (.int k Z) w := by
  rw [binOp_mul, ← hZ]; rfl
end
theorem run_conv (s d : TypeId) (k kd : IntKind) (X Z : Int) (hs : (Tryz.prog.underlying s).isSome = true) (hk : Tryz.prog.intKind d = kd) (hd : Tryz.prog.underlying d = some (.int (Tryz.prog.intKind d))) (hZ : kd.wrap X = Z) (w : World) : (convert s d (.int k X)).run Tryz.prog w = .ok (.int kd Z) w := by
  have h := run_convert_int (P := Tryz.prog) (w := w) s d k X hs hd
  rw [hk, hZ] at h
  exact h
/-- A slice of texts of the call's own. -/
def StrsO (w : World) (B : Nat) (v : Value) (ss : List ByteArray) : Prop := w.ownsRow B 9 1 v ss.length (ss.map Value.string)
theorem info9 : (Tryz.prog.info? 9).map (fun i => (i.zero, i.size, i.bytes)) = some (some (.string { data := #[] }), 1, 16) := by kernel_rfl
theorem StrsO.nil (w : World) (B : Nat) : StrsO w B (.slice none 0 0) [] := World.ownsRow_nil w B 9 1
theorem StrsO.block {w : World} {B : Nat} {v : Value} {l : List ByteArray} (h : StrsO w B v l) : ∀ k, v.ownBlock = some k → B ≤ k ∧ k < w.heap.size := fun k hk => World.ownsRow.lt h k hk
theorem StrsO.same {w w' : World} {B : Nat} {v : Value} {l : List ByteArray} (h : StrsO w B v l) (e : ∀ k, v.ownBlock = some k → w'.heap[k]? = w.heap[k]?) : StrsO w' B v l := by
  refine ⟨h.1, ?_⟩
  rcases h.2 with hn | ⟨g, cap, cur, rfl, hb, hgg, rest⟩
  · exact .inl hn
  · exact .inr ⟨g, cap, cur, rfl, hb, by rw [e g rfl]; exact hgg, rest⟩
theorem StrsO.below {w w' : World} {B : Nat} {v : Value} {l : List ByteArray} (h : StrsO w B v l) (hb : Below w.heap.size w w') : StrsO w' B v l :=
  h.same (fun k hk => hb.block k (h.block k hk).2)
theorem StrsO.cell {w : World} {B g n cap : Nat} {l : List ByteArray} (h : StrsO w B (.slice (some ⟨g, 0, none⟩) n cap) l) (i : Nat) (hi : i < l.length) : w.cell? ⟨g, i, none⟩ = some (.string l[i]) := by
  rcases h.2 with ⟨h1, _⟩ | ⟨g', cap', cur, h1, hb, hg, hnc, hcm, hcs, htake⟩
  · cases h1
  · simp only [Value.slice.injEq, Option.some.injEq, Addr.mk.injEq, and_true] at h1
    obtain ⟨rfl, rfl, rfl⟩ := h1
    rw [cell_of_row w g i cur 9 (0, 0) hg]
    rw [Nat.mul_one] at htake
    have e : (cur.toList.take l.length)[i]? = (l.map Value.string)[i]? := by rw [htake]
    rw [List.getElem?_take_of_lt hi, List.getElem?_map, List.getElem?_eq_getElem hi, Array.getElem?_toList] at e
    exact e
theorem wpList_append_one {ops : Array Oper} {rest : List Oper} {o : Oper} {a : Act} {w w0 : World} {Q : Exit → Act → World → Prop} (hgd : o.guard = none) (s x : Operand)
    (ho : o.op = .call { callee := .builtin .append, args := #[s, x], argTypes := #[147, 147] }) (B : Nat) (v : Value) (l : List ByteArray) (c : ByteArray) (hs : a.eval s = v) (hown : StrsO w0 B v l)
    (hx : a.eval x = .slice (some ⟨w0.heap.size, 0, none⟩) 1 1) (hw : w = w0.alloc (.cells #[.string c] 9)) (hlen : (l.length + 1) * 16 ≤ 140737488355328) (hB : B ≤ w0.heap.size)
    (h : ∀ g cap w', StrsO w' B (.slice (some ⟨g, 0, none⟩) (l.length + 1) cap) (l ++ [c]) → w0.grownBy w' v.ownBlock → wpList Tryz.prog ops Q rest (a.put o.dst (.slice (some ⟨g, 0, none⟩) (l.length + 1) cap)) w') : wpList Tryz.prog ops Q (o :: rest) a w := by
  subst hw
  obtain ⟨i, hi, hz0, hz1, hz2⟩ := info_parts info9
  have hown' : (w0.alloc (.cells #[.string c] 9)).ownsRow B 9 1 v l.length (l.map Value.string) := World.ownsRow.kept hown (grown_alloc w0 _ none) (by cases v.ownBlock <;> simp)
  refine wpList_append_lies (P := Tryz.prog) _ hgd s x 147 ho B 9 i (.string { data := #[] }) 1 16 Tryz.underlying147 hi hz0 hz1 hz2 rfl (by omega) v l.length (l.map Value.string) hs hown' ⟨w0.heap.size, 0, none⟩ 1 1 [.string c] hx rfl ?_ ?_ (by omega) (by unfold maxLen; omega) hlen (by simp; omega) (w0.heap.size + 1) (by simp) ?_
  · intro j u hu
    exact World.news_of_block (heap_alloc_new w0 _) j u hu
  · intro u hu
    simp at hu; subst hu; rfl
  · intro g cap w' h1 h2 h3 h4
    refine h g cap w' ?_ (grown_trans (grown_alloc w0 _ v.ownBlock) h2)
    unfold StrsO
    rw [List.length_append, List.map_append]
    exact h1
end Go.Proofs.YtlohfoggcdaeiaaGreat.Cu
/-
  The document's bytes and numbers (escrowref03.Bytes, Number).
-/
namespace Go.Proofs.YtlohfoggcdaeiaaGreat.Cu
set_option maxRecDepth 20000
open Go.RowKit
set_option linter.unusedVariables false
theorem wrap_un (k : IntKind) (b : Nat) (hs : k.signed = false) (hb : k.bits = b) (n : Nat) : k.wrap (n : Int) = ((n % 2 ^ b : Nat) : Int) := by
  simp only [IntKind.wrap, hs, hb]; simp
set_option maxRecDepth 100000 in
set_option maxHeartbeats 4000000 in
theorem refBytes (X : Int) (x n : Nat) (hX : X = (x : Int)) (N : Int) (hN : N = (n : Int)) (hn : n ≤ 8) (w : World) : Calls Tryz.prog 35 #[.int .u64 X, .int .i64 N] w fun e w' => e = .returned (.string (ofL (nb x n))) ∧ Below w.heap.size w w' := by
  have HX := hide hX
  subst hN
  obtain ⟨R, hR⟩ : ∃ R, ofL (nb x n) = R := ⟨_, rfl⟩
  rw [hR]
  have HR := hide hR
  clear hX hR
  go_enter Tryz.func35, Tryz.ntmps35
  go_wp2
  go_loopw [5, 6] (fun b i wr => ∃ k : Nat, k ≤ n ∧ i = .int .i64 ((k : Int) - 1) ∧ Bytes wr w.heap.size b ((List.range (n - k)).map (digit x n)) ∧ Below w.heap.size w wr) (fun _ i _ => (intOf i + 1).toNat)
  case atStart => exact ⟨n, Nat.le_refl _, rfl, by rw [Nat.sub_self]; exact Bytes.nil _ _, Below.refl _ _⟩
  case round =>
    obtain ⟨k, hk, rfl, hB, kb⟩ := hrel
    by_cases hm0 : 0 < k
    · obtain ⟨I, hI⟩ : ∃ I : Int, (k : Int) - 1 = I := ⟨_, rfl⟩
      obtain ⟨J, hJ⟩ : ∃ J : Int, 8 * I = J := ⟨_, rfl⟩
      obtain ⟨Z, hZ⟩ : ∃ Z : Int, X / (2 : Int) ^ (8 * (k - 1)) = Z := ⟨_, rfl⟩
      have K1 : Hid (∀ w : World, (convert 3 118 (.int .i64 I)).run Tryz.prog w = .ok (.int .u64 I) w) := fun w => run_conv 3 118 .i64 .u64 I I (by kernel_rfl) (by kernel_rfl) (by kernel_rfl) (by
        obtain ⟨i, rfl⟩ := Int.eq_ofNat_of_zero_le (show 0 ≤ I by omega)
        rw [wrap_un .u64 64 rfl rfl, Nat.mod_eq_of_lt (by omega)]) w
      have K2 : Hid (∀ w : World, (binOp .mul 118 (.int .u64 8) (.int .u64 I)).run Tryz.prog w = .ok (.int .u64 J) w) := fun w => run_mul 118 .u64 8 I J (by
        obtain ⟨j, rfl⟩ := Int.eq_ofNat_of_zero_le (show 0 ≤ J by omega)
        rw [hJ, wrap_un .u64 64 rfl rfl, Nat.mod_eq_of_lt (by omega)]) w
      have K3 : Hid (∀ w : World, (binOp .shr 79 (.int .u64 X) (.int .u64 J)).run Tryz.prog w = .ok (.int .u64 Z) w) := fun w => run_shr 79 .u64 .u64 X J Z (8 * (k - 1)) (by omega) (by show _ ≤ 64; omega) hZ w
      have K4 : Hid (∀ w : World, (convert 79 5 (.int .u64 Z)).run Tryz.prog w = .ok (.int .u8 ((digit x n (n - k)).toNat : Int)) w) := fun w => by
        rw [← wrap8_digit x n (n - k) (8 * (k - 1)) (by omega), ← HX.out, hZ]
        exact conv_u8 79 .u64 Z (by kernel_rfl) w
      have hd : decide (I ≥ 0) = true := decide_eq_true (by omega)
      have hd2 : (0 : Int) ≤ I := by omega
      have hd3 : I ≤ 8 := by omega
      have HI := hide hI
      rw [hI]
      have HLL : Hid (((List.range (n - k)).map (digit x n)).length + 1 ≤ 140737488355328) := by
        show _ ≤ _
        rw [List.length_map, List.length_range]; omega
      obtain ⟨L, hL⟩ : ∃ L, (List.range (n - k)).map (digit x n) = L := ⟨_, rfl⟩
      rw [hL] at hB HLL
      have HE := hide hL
      have HSZ := hide kb.size
      clear hI hJ hZ hL
      go_wp2_with (first | (refine wpW_conv _ _ _ rfl (.int .i64 I) (.int .u64 I) (by rfl) (by rfl) (K1.out _) ?_) | (refine wpW_bin .mul _ _ _ _ rfl (.int .u64 8) (.int .u64 I) (.int .u64 J) (by rfl) (by rfl) (by rfl) rfl (K2.out _) ?_) | (refine wpW_bin .shr _ _ _ _ rfl (.int .u64 X) (.int .u64 J) (.int .u64 Z) (by rfl) (by rfl) (by rfl) rfl (K3.out _) ?_) | (refine wpW_conv _ _ _ rfl (.int .u64 Z) (.int .u8 ((digit x n (n - k)).toNat : Int)) (by rfl) (by rfl) (K4.out _) ?_) | (at_builtin; refine wpList_append_byte rfl _ _ rfl w.heap.size _ L (digit x n (n - k)) _ rfl (by rfl) hB (by rfl) rfl HLL.out HSZ.out ?_; intro g cap w5 hB5 hM5))
      go_roundw
      case rel =>
        have hI := HI.out
        refine ⟨k - 1, by omega, by rw [show I - 1 = ((k - 1 : Nat) : Int) - 1 by omega], ?_, kb.trans (grown_below (B := w.heap.size) hM5.gr hB.block kb.size)⟩
        rw [← HE.out, range_snoc, show n - k + 1 = n - (k - 1) by omega] at hB5
        rw [HE.out] at hB5
        exact hB5
      case measure => have := HI.out; simp [intOf]; omega
    · have hk0 : k = 0 := by omega
      subst hk0
      have hcv := hB.conv
      obtain ⟨ad, n1, c1, rfl⟩ := hB.shape
      have HN : Hid ((⟨((List.range (n - 0)).map (digit x n)).toArray⟩ : ByteArray) = ofL (nb x n)) := rfl
      rw [HN.out, HR.out] at hcv
      clear hB
      go_wp2
      go_ret
      exact ⟨rfl, kb⟩
theorem be_take_lt (s : ByteArray) (i : Nat) (hi : i ≤ s.size) (hs : s.size ≤ 8) : be (s.data.toList.take i) < 18446744073709551616 := by
  have h := be_lt (s.data.toList.take i)
  rw [List.length_take, str_len, Nat.min_eq_left hi] at h
  have : 256 ^ i ≤ 256 ^ 8 := Nat.pow_le_pow_right (by decide) (by omega)
  omega
set_option maxRecDepth 100000 in
set_option maxHeartbeats 1000000 in
theorem xNumber (s : ByteArray) (w : World) (hs : s.size ≤ 8) : Calls Tryz.prog 65 #[.string s] w fun e w' => e = .returned (.int .u64 (be s.data.toList : Int)) ∧ w = w' := by
  obtain ⟨F, hF⟩ : ∃ F : Nat → Int, ∀ i, F i = (be (s.data.toList.take i) : Int) := ⟨_, fun _ => rfl⟩
  have h0 : F 0 = 0 := by rw [hF]; rfl
  have h1 : (be s.data.toList : Int) = F s.size := by rw [hF, ← str_len, List.take_length]
  rw [h1]
  have HV := hide hF
  have H0 := hide h0.symm
  have HS := hide hs
  clear hF h0 h1 hs
  go_enter Tryz.func65, Tryz.ntmps65
  go_wp2
  go_loop [3, 4] (fun v i => ∃ k : Nat, k ≤ s.size ∧ i = .int .i64 (k : Int) ∧ v = .int .u64 (F k)) (fun _ i => s.size - (intOf i).toNat)
  case atStart => exact ⟨0, Nat.zero_le _, rfl, by rw [← H0.out]⟩
  case round =>
    obtain ⟨k, hk, rfl, rfl⟩ := hrel
    by_cases hlt : k < s.size
    · have hd : decide ((k : Int) < (s.size : Int)) = true := decide_eq_true (by omega)
      have hs8 := HS.out
      have hkb : (k : Int) < 8 := by omega
      obtain ⟨c, hc⟩ : ∃ c : Int, ((byteAt s.data.toList k).toNat : Int) = c := ⟨_, rfl⟩
      obtain ⟨M, hM⟩ : ∃ M : Int, F k * 256 = M := ⟨_, rfl⟩
      have e1 : s.data.toList.take (k + 1) = s.data.toList.take k ++ [byteAt s.data.toList k] := by
        rw [List.take_succ_eq_append_getElem (by rw [str_len]; exact hlt)]; unfold byteAt; rw [List.getD_eq_getElem?_getD, List.getElem?_eq_getElem (by rw [str_len]; exact hlt)]; rfl
      have e2 : F (k + 1) = M + c := by rw [HV.out, e1, be_snoc, ← hM, HV.out, ← hc]; omega
      have hb := be_take_lt s (k + 1) (by omega) HS.out
      have hb2 : F (k + 1) < 18446744073709551616 := by rw [HV.out]; omega
      have hF0 : 0 ≤ F k := by rw [HV.out]; omega
      have hc0 : 0 ≤ c := by omega
      have HI : Hid (∀ w : World, (Instr.index 9 (.string s) (.int .i64 (k : Int))).run Tryz.prog w = .ok (.int .u8 c) w) := fun w => by rw [← hc]; exact index_text s k hlt w
      have KM : Hid (∀ w : World, (binOp .mul 79 (.int .u64 (F k)) (.int .u64 256)).run Tryz.prog w = .ok (.int .u64 M) w) := fun w => run_mul 79 .u64 (F k) 256 M (by
        obtain ⟨m, rfl⟩ := Int.eq_ofNat_of_zero_le (show 0 ≤ M by omega)
        rw [hM, wrap_un .u64 64 rfl rfl, Nat.mod_eq_of_lt (by omega)]) w
      have KC : Hid (∀ w : World, (convert 5 79 (.int .u8 c)).run Tryz.prog w = .ok (.int .u64 c) w) := fun w => run_conv 5 79 .u8 .u64 c c (by kernel_rfl) (by kernel_rfl) (by kernel_rfl) (by rw [← hc, wrap_un .u64 64 rfl rfl, Nat.mod_eq_of_lt (by have := (byteAt s.data.toList k).toNat_lt; omega)]) w
      have KA : Hid (∀ w : World, (binOp .add 79 (.int .u64 M) (.int .u64 c)).run Tryz.prog w = .ok (.int .u64 (F (k + 1))) w) := fun w => by
        have : IntKind.u64.wrap (M + c) = F (k + 1) := by
          obtain ⟨m, hm⟩ := Int.eq_ofNat_of_zero_le (show 0 ≤ M + c by omega)
          rw [e2, hm, wrap_un .u64 64 rfl rfl, Nat.mod_eq_of_lt (by omega)]
        show (Op.intArith .add .u64 M c).run Tryz.prog w = _
        rw [← this]; rfl
      clear hc hM e1 e2 hb hb2 hF0 hc0 hs8
      go_wp2_with (first | (refine wpList_index_lit rfl _ _ _ rfl (.int .u8 c) ?_ ?_; · exact HI.out _) | (refine wpW_bin .mul _ _ _ _ rfl (.int .u64 (F k)) (.int .u64 256) (.int .u64 M) (by rfl) (by rfl) (by rfl) rfl (KM.out _) ?_) | (refine wpW_conv _ _ _ rfl (.int .u8 c) (.int .u64 c) (by rfl) (by rfl) (KC.out _) ?_) | (refine wpW_bin .add _ _ _ _ rfl (.int .u64 M) (.int .u64 c) (.int .u64 (F (k + 1))) (by rfl) (by rfl) (by rfl) rfl (KA.out _) ?_))
      go_round
      case rel => exact ⟨k + 1, by omega, by go_num, rfl⟩
      case measure => simp [intOf]; omega
    · have e : k = s.size := by omega
      subst e
      have hd : decide ((s.size : Int) < (s.size : Int)) = false := by simp
      go_wp2
      go_ret
      exact ⟨rfl, rfl⟩
end Go.Proofs.YtlohfoggcdaeiaaGreat.Cu
