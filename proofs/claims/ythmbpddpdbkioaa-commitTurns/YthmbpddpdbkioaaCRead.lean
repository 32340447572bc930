/-
  Read of the code (printed by gen_c6.py).
-/
import Derived.Test.YthmbpddpdbkioaaCTake
import Derived.Test.YthmbpddpdbkioaaGLast
namespace Go.Proofs.Ythmbpddpdbkioaa
open Go.RowKit S
set_option linter.unusedVariables false
set_option linter.unusedSimpArgs false
open Cu (nb be hl hOf ofL num nil8 takeS takeA RS CW Mw CR Mr)
theorem zero32c : (#[.int .u8 0, .int .u8 0, .int .u8 0, .int .u8 0, .int .u8 0, .int .u8 0, .int .u8 0, .int .u8 0, .int .u8 0, .int .u8 0, .int .u8 0, .int .u8 0, .int .u8 0, .int .u8 0, .int .u8 0, .int .u8 0, .int .u8 0, .int .u8 0, .int .u8 0, .int .u8 0, .int .u8 0, .int .u8 0, .int .u8 0, .int .u8 0, .int .u8 0, .int .u8 0, .int .u8 0, .int .u8 0, .int .u8 0, .int .u8 0, .int .u8 0, .int .u8 0] : Array Value) = tabv (bv (fun _ => (0 : UInt8))) 32 := rfl
theorem resR5 (w : World) (g0 g1 : Nat) (f0 f1 : Nat → Value) (tmps : Array Value) (k2 k3 k6 : Value) (h0 : Has w g0 30 f0 32) (h1 : Has w g1 24 f1 3) (hp4 : tmps.getD 4 undef = .pointer (some ⟨g0, 0, none⟩)) (hp5 : tmps.getD 5 undef = .pointer (some ⟨g1, 0, none⟩)) (h2 : tmps.getD 2 undef = k2) (h3 : tmps.getD 3 undef = k3) (h6 : tmps.getD 6 undef = k6) (fn : Func) (h : fn.results = #[.tmp 2, .tmp 3, .cell 4 30, .cell 5 24, .tmp 6]) :
    (results fn tmps).run Try.prog w = .ok (.tuple #[k2, k3, .agg (tabv f0 32), .agg (tabv f1 3), k6]) w := by
  have e0 := run_loadVar_row (P := Try.prog) w g0 30 30 (tabv f0 32) (0, 0) _ h0 Try.underlying30 rfl (by rw [tabv_size]; exact info26)
  have e1 := run_loadVar_row (P := Try.prog) w g1 24 24 (tabv f1 3) (0, 0) _ h1 Try.underlying24 rfl (by rw [tabv_size]; exact infoL)
  simp only [Array.getD_eq_getD_getElem?] at hp4 hp5 h2 h3 h6
  simp [results, h, hp4, hp5, h2, h3, h6, asAddr, e0, e1]
def RdC (b : ByteArray) (o n : Int) (h : Nat → UInt8) (x y : Int) (l : List Pen) (err : Int) : Prop := (err = 0 ∧ RdOk b o n h x y l) ∨ (err = 4 ∧ o = 0 ∧ n = 0 ∧ h = (fun _ => 0) ∧ x = 0 ∧ y = 0 ∧ l = [] ∧ ∀ o' n' h' x' y' l', ¬ RdOk b o' n' h' x' y' l')
/-- What Read answers. -/
def RdPost (b : ByteArray) (B : Nat) (w : World) (e : Ending) (w' : World) : Prop := ∃ (o n : Int) (h : Nat → UInt8) (x y : Int) (l : List Pen) (v : Value) (err : Int), e = .returned (.tuple #[.int .i64 o, .int .i64 n, .agg (tabv (bv h) 32), .agg (tabv (ledv x y v) 3), .int .i64 err]) ∧ OwnP B w' v l ∧ Below B w w' ∧ RdC b o n h x y l err
theorem rdPost {b : ByteArray} {B : Nat} {w : World} {e : Ending} {w' : World} (o n : Int) (h : Nat → UInt8) (x y : Int) (l : List Pen) (v : Value) (err : Int) (he : e = .returned (.tuple #[.int .i64 o, .int .i64 n, .agg (tabv (bv h) 32), .agg (tabv (ledv x y v) 3), .int .i64 err])) (hO : OwnP B w' v l) (hb : Below B w w') (hc : RdC b o n h x y l err) : RdPost b B w e w' := ⟨o, n, h, x, y, l, v, err, he, hO, hb, hc⟩
theorem penR_rng (st : RS) : (penR st).id ≤ 9223372036854775807 := by
  unfold penR i64
  simp only [IntKind.wrap_i64]
  omega
theorem builtH0 : Try.prog.built 30 [] = some (tabv (bv (fun _ => (0 : UInt8))) 32) := by kernel_rfl
theorem builtL0 : Try.prog.built 24 [] = some (tabv (ledv 0 0 (.slice none 0 0)) 3) := by kernel_rfl
theorem ba_ne {a b : ByteArray} (h : a ≠ b) : ¬ a.toList = b.toList := fun e => h (by rw [ByteArray.toList_eq, ByteArray.toList_eq] at e; rw [← Cu.ofL_of a, e, Cu.ofL_of])
theorem tA_len (n : Nat) (st : RS) : (takeA n st).data.toList.length ≤ n := by rw [Array.length_toList]; exact Cu.takeA_le n st
theorem be_u8 (l : List UInt8) (h : l.length ≤ 1) : be l < 256 := by
  have := Cu.be_lt l
  have h2 : 256 ^ l.length ≤ 256 ^ 1 := Nat.pow_le_pow_right (by omega) h
  omega
theorem be_u16 (l : List UInt8) (h : l.length ≤ 2) : be l < 65536 := by
  have := Cu.be_lt l
  have h2 : 256 ^ l.length ≤ 256 ^ 2 := Nat.pow_le_pow_right (by omega) h
  omega
/-- Read's variables. -/
structure RWs (w : World) (g0 g1 p gH gL : Nat) (h : Nat → UInt8) (X Y : Int) (v : Value) (ps : List Pen) (st : RS) (wr : World) : Prop where
  r0 : Has wr g0 30 (bv (fun _ => 0)) 32
  r1 : Has wr g1 24 (ledv 0 0 (.slice none 0 0)) 3
  rd : CR wr p st
  rH : Has wr gH 30 (bv h) 32
  rL : Has wr gL 24 (ledv X Y v) 3
  row : OwnP (gL + 1) wr v ps
  bel : Below g0 w wr
section
variable {w : World} {g0 g1 p gH gL : Nat} {h : Nat → UInt8} {X Y : Int} {v : Value} {ps : List Pen} {st : RS} {wr w' : World}
theorem RWs.below (k : RWs w g0 g1 p gH gL h X Y v ps st wr) (hb : Below wr.heap.size wr w') : RWs w g0 g1 p gH gL h X Y v ps st w' :=
  ⟨k.r0.below hb k.r0.lt, k.r1.below hb k.r1.lt, k.rd.below hb, k.rH.below hb k.rH.lt, k.rL.below hb k.rL.lt, k.row.below hb, k.bel.trans (hb.mono (Nat.le_of_lt k.r0.lt))⟩
theorem RWs.mr {st' : RS} (k : RWs w g0 g1 p gH gL h X Y v ps st wr) (hM : Mr p wr w') (hc : CR w' p st') (hg : g0 < g1 ∧ g1 < p ∧ p < gH ∧ gH < gL) : RWs w g0 g1 p gH gL h X Y v ps st' w' :=
  ⟨k.r0.mr hM (by omega), k.r1.mr hM (by omega), hc, k.rH.mr hM (by omega), k.rL.mr hM (by omega), k.row.same (fun i hi => hM.block i (k.row.lt i hi).2 (by have := (k.row.lt i hi).1; omega)), k.bel.trans (hM.below (by omega) (Nat.le_of_lt k.r0.lt))⟩
theorem RWs.app {v' : Value} {s : Pen} (k : RWs w g0 g1 p gH gL h X Y v ps st wr) (hg : g0 < g1 ∧ g1 < p ∧ p < gH ∧ gH < gL) (hO : OwnP (gL + 1) w' v' (ps ++ [s])) (gr : ∀ g, g < wr.heap.size → v.ownBlock ≠ some g → w'.heap[g]? = wr.heap[g]?) (hB : Below (gL + 1) wr w') : RWs w g0 g1 p gH gL h X Y v' (ps ++ [s]) st (w'.setCell ⟨gL, 2, none⟩ v') := by
  have e : ∀ g, g ≤ gL → g < wr.heap.size → w'.heap[g]? = wr.heap[g]? := fun g hg2 hlt => gr g hlt (fun e => by have := (k.row.lt g e).1; omega)
  have e2 : ∀ g, g < gL → (w'.setCell ⟨gL, 2, none⟩ v').heap[g]? = w'.heap[g]? := fun g hg2 => Below.heap_setCell w' ⟨gL, 2, none⟩ _ g (by show g ≠ gL; omega)
  refine ⟨(k.r0.same ((e2 _ (by omega)).trans (e _ (by omega) k.r0.lt))), (k.r1.same ((e2 _ (by omega)).trans (e _ (by omega) k.r1.lt))), (k.rd.same ((e2 _ (by omega)).trans (e _ (by omega) k.rd.lt))), (k.rH.same ((e2 _ (by omega)).trans (e _ (by omega) k.rH.lt))), (k.rL.same (e _ (Nat.le_refl _) k.rL.lt)).openL v', hO.same (fun i hi => Below.heap_setCell w' ⟨gL, 2, none⟩ _ i (by have := (hO.lt i hi).1; show i ≠ gL; omega)), ?_⟩
  exact (k.bel.trans (hB.mono (by omega))).setCell (show g0 ≤ gL by omega) _
end
theorem RWs.setX {w : World} {g0 g1 p gH gL : Nat} {h : Nat → UInt8} {X Y : Int} {v : Value} {ps : List Pen} {st : RS} {wr : World} (k : RWs w g0 g1 p gH gL h X Y v ps st wr) (hg : g0 < g1 ∧ g1 < p ∧ p < gH ∧ gH < gL) (Z : Int) : RWs w g0 g1 p gH gL h Z Y v ps st (wr.setCell ⟨gL, 0, none⟩ (.int .i64 Z)) := by
  have e2 : ∀ g, g ≠ gL → (wr.setCell ⟨gL, 0, none⟩ (.int .i64 Z)).heap[g]? = wr.heap[g]? := fun g hg2 => Below.heap_setCell wr ⟨gL, 0, none⟩ _ g hg2
  exact ⟨k.r0.same (e2 _ (by omega)), k.r1.same (e2 _ (by omega)), k.rd.same (e2 _ (by omega)), k.rH.same (e2 _ (by omega)), (k.rL.set 0 _).congr _ (fun i hi => by
    have : i = 0 ∨ i = 1 ∨ i = 2 := by omega
    rcases this with rfl | rfl | rfl <;> simp [upd, ledv]), k.row.same (fun i hi => e2 _ (by have := (k.row.lt i hi).1; omega)), k.bel.setCell (show g0 ≤ gL by omega) _⟩
theorem RWs.setY {w : World} {g0 g1 p gH gL : Nat} {h : Nat → UInt8} {X Y : Int} {v : Value} {ps : List Pen} {st : RS} {wr : World} (k : RWs w g0 g1 p gH gL h X Y v ps st wr) (hg : g0 < g1 ∧ g1 < p ∧ p < gH ∧ gH < gL) (Z : Int) : RWs w g0 g1 p gH gL h X Z v ps st (wr.setCell ⟨gL, 1, none⟩ (.int .i64 Z)) := by
  have e2 : ∀ g, g ≠ gL → (wr.setCell ⟨gL, 1, none⟩ (.int .i64 Z)).heap[g]? = wr.heap[g]? := fun g hg2 => Below.heap_setCell wr ⟨gL, 1, none⟩ _ g hg2
  exact ⟨k.r0.same (e2 _ (by omega)), k.r1.same (e2 _ (by omega)), k.rd.same (e2 _ (by omega)), k.rH.same (e2 _ (by omega)), (k.rL.set 1 _).congr _ (fun i hi => by
    have : i = 0 ∨ i = 1 ∨ i = 2 := by omega
    rcases this with rfl | rfl | rfl <;> simp [upd, ledv]), k.row.same (fun i hi => e2 _ (by have := (k.row.lt i hi).1; omega)), k.bel.setCell (show g0 ≤ gL by omega) _⟩
set_option maxRecDepth 100000 in
set_option maxHeartbeats 4000000 in
theorem read_any (b : ByteArray) (w : World) : Calls Try.prog 20 #[.string b] w fun e w' => RdPost b w.heap.size w e w' := by
  obtain ⟨wa, hWa⟩ : ∃ z, w.alloc (.cells #[.int .u8 0, .int .u8 0, .int .u8 0, .int .u8 0, .int .u8 0, .int .u8 0, .int .u8 0, .int .u8 0, .int .u8 0, .int .u8 0, .int .u8 0, .int .u8 0, .int .u8 0, .int .u8 0, .int .u8 0, .int .u8 0, .int .u8 0, .int .u8 0, .int .u8 0, .int .u8 0, .int .u8 0, .int .u8 0, .int .u8 0, .int .u8 0, .int .u8 0, .int .u8 0, .int .u8 0, .int .u8 0, .int .u8 0, .int .u8 0, .int .u8 0, .int .u8 0] 30) = z := ⟨_, rfl⟩
  obtain ⟨wb, hWb⟩ : ∃ z, wa.alloc (.cells #[.int .i64 0, .int .i64 0, .slice none 0 0] 24) = z := ⟨_, rfl⟩
  have ra : Has wa w.heap.size 30 (bv (fun _ => 0)) 32 := by rw [← hWa, zero32c]; exact Has.new w 30 _ 32 _ rfl
  have ba : Below w.heap.size w wa := by rw [← hWa]; exact (Below.refl _ _).alloc (Nat.le_refl _) _
  have rb : Has wb wa.heap.size 24 (ledv 0 0 (.slice none 0 0)) 3 := by rw [← hWb, zeroL]; exact Has.new wa 24 _ 3 _ rfl
  have bb : Below wa.heap.size wa wb := by rw [← hWb]; exact (Below.refl _ _).alloc (Nat.le_refl _) _
  have gb : Below w.heap.size w wb := ba.trans (bb.mono ba.size)
  have I0 := ra.below bb ra.lt
  have l0 : w.heap.size < wa.heap.size := ra.lt
  have rb' := rb
  have l1 : wa.heap.size < wb.heap.size := rb.lt
  obtain ⟨O, hO⟩ : ∃ z, ((be (takeA 1 (b, 0)).data.toList : Nat) : Int) = z := ⟨_, rfl⟩
  obtain ⟨s1, hs1⟩ : ∃ z, takeS 1 (b, 0) = z := ⟨_, rfl⟩
  obtain ⟨N, hN⟩ : ∃ z, i64 (num 8 s1) = z := ⟨_, rfl⟩
  obtain ⟨s2, hs2⟩ : ∃ z, takeS 8 s1 = z := ⟨_, rfl⟩
  obtain ⟨Hp, hHp⟩ : ∃ z, hOf (takeA 32 s2) = z := ⟨_, rfl⟩
  obtain ⟨s3, hs3⟩ : ∃ z, takeS 32 s2 = z := ⟨_, rfl⟩
  obtain ⟨X, hX⟩ : ∃ z, i64 (num 8 s3) = z := ⟨_, rfl⟩
  obtain ⟨s4, hs4⟩ : ∃ z, takeS 8 s3 = z := ⟨_, rfl⟩
  obtain ⟨Y, hY⟩ : ∃ z, i64 (num 8 s4) = z := ⟨_, rfl⟩
  obtain ⟨s5, hs5⟩ : ∃ z, takeS 8 s4 = z := ⟨_, rfl⟩
  obtain ⟨kk, hkk⟩ : ∃ z, be (takeA 2 s5).data.toList = z := ⟨_, rfl⟩
  obtain ⟨s6, hs6⟩ : ∃ z, takeS 2 s5 = z := ⟨_, rfl⟩
  have HD0 : Hid (headR (b, 0) = ⟨O, N, Hp, X, Y, kk, s6⟩) := by show _ = _; unfold headR; simp only [hO, hs1, hN, hs2, hHp, hs3, hX, hs4, hY, hs5, hkk, hs6]
  have HC : Hid (∀ o' n' h' x' y' l', RdOk b o' n' h' x' y' l' → O = o' ∧ N = n' ∧ eqH Hp h' = true ∧ X = x' ∧ Y = y' ∧ kk = l'.length ∧ s6 = (ofL (opensB l'), 0)) := fun o' n' h' x' y' l' hr => by have := hr.head; rw [HD0.out] at this; exact this
  have hO255 : O < 256 ∧ 0 ≤ O := by
    have := be_u8 (takeA 1 (b, 0)).data.toList (tA_len 1 _)
    omega
  have hkb : kk < 65536 := by rw [← hkk]; exact be_u16 _ (tA_len 2 _)
  have K1 : Hid (∀ w : World, (convert 5 3 (.int .u8 O)).run Try.prog w = .ok (.int .i64 O) w) := fun w => by
    have h := run_convert_int (P := Try.prog) (w := w) 5 3 .u8 O (by kernel_rfl) (by kernel_rfl)
    rw [show Try.prog.intKind 3 = .i64 by kernel_rfl, show IntKind.i64.wrap O = O by rw [IntKind.wrap_i64]; omega] at h
    exact h
  have HO := hide hO
  have HS1 := hide hs1
  have HN := hide hN
  have HS2 := hide hs2
  have HHP := hide hHp
  have HS3 := hide hs3
  have HX := hide hX
  have HS4 := hide hs4
  have HY := hide hY
  have HS5 := hide hs5
  have HKK := hide hkk
  have HS6 := hide hs6
  have HKB := hide hkb
  clear hO hs1 hN hs2 hHp hs3 hX hs4 hY hs5 hkk hs6 HD0 hO255 hkb ra ba rb bb
  go_enter Try.func20, Try.ntmps20
  go_wp2_with fail
  refine (Cu.rOpen b _).mono ?_
  rintro e w2 ⟨rfl, hR2⟩
  obtain ⟨h2, hb2, hsz2⟩ := hR2
  have J0 := hide (I0.below hb2 I0.lt)
  have J1 := hide (rb'.below hb2 rb'.lt)
  have gb2 : Below w.heap.size w w2 := gb.trans (hb2.mono gb.size)
  clear hb2 hsz2 I0 rb' gb
  generalize hg0 : w.heap.size = g0 at J0 l0 gb2 ⊢
  generalize hg1 : wa.heap.size = g1 at J1 l0 l1 ⊢
  generalize hpp : wb.heap.size = p at h2 l1 ⊢
  clear hWa hWb hg1 hpp
  go_wp2_with fail
  refine (Cu.rU8 p (b, 0) _ h2).mono ?_
  rintro e w3 ⟨rfl, h3, hM3⟩
  rw [HO.out]
  rw [HS1.out] at h3
  have P0 := hide (J0.out.mr hM3 (by omega))
  have P1 := hide (J1.out.mr hM3 (by omega))
  have gb3 : Below g0 w w3 := gb2.trans (hM3.below (by omega) (Nat.le_of_lt J0.out.lt))
  clear hM3 h2 J0 J1 gb2
  go_wp2_with (first | refine Cu.wpList_conv rfl _ _ _ rfl .u8 .i64 O O (by rfl) (K1.out _) ?_ | fail)
  refine (Cu.rI64 p s1 _ h3 N HN.out).mono ?_
  rintro e w4 ⟨rfl, h4, hM4⟩
  rw [HS2.out] at h4
  have Q0 := hide (P0.out.mr hM4 (by omega))
  have Q1 := hide (P1.out.mr hM4 (by omega))
  have gb4 : Below g0 w w4 := gb3.trans (hM4.below (by omega) (Nat.le_of_lt P0.out.lt))
  clear hM4 h3 P0 P1 gb3
  go_wp2_with fail
  refine (Cu.rHash p s2 _ h4).mono ?_
  rintro e w5 ⟨rfl, h5, hM5⟩
  rw [HHP.out]
  rw [HS3.out] at h5
  have P0 := hide (Q0.out.mr hM5 (by omega))
  have P1 := hide (Q1.out.mr hM5 (by omega))
  have gb5 : Below g0 w w5 := gb4.trans (hM5.below (by omega) (Nat.le_of_lt Q0.out.lt))
  clear hM5 h4 Q0 Q1 gb4
  obtain ⟨w6, hW6⟩ : ∃ z, w5.alloc (.cells #[.int .u8 0, .int .u8 0, .int .u8 0, .int .u8 0, .int .u8 0, .int .u8 0, .int .u8 0, .int .u8 0, .int .u8 0, .int .u8 0, .int .u8 0, .int .u8 0, .int .u8 0, .int .u8 0, .int .u8 0, .int .u8 0, .int .u8 0, .int .u8 0, .int .u8 0, .int .u8 0, .int .u8 0, .int .u8 0, .int .u8 0, .int .u8 0, .int .u8 0, .int .u8 0, .int .u8 0, .int .u8 0, .int .u8 0, .int .u8 0, .int .u8 0, .int .u8 0] 30) = z := ⟨_, rfl⟩
  have r6 : Has w6 w5.heap.size 30 (bv (fun _ => 0)) 32 := by rw [← hW6, zero32c]; exact Has.new w5 30 _ 32 _ rfl
  have b6 : Below w5.heap.size w5 w6 := by rw [← hW6]; exact (Below.refl _ _).alloc (Nat.le_refl _) _
  obtain ⟨w7, hW7⟩ : ∃ z, w6.setRow w5.heap.size (tabv (bv Hp) 32) = z := ⟨_, rfl⟩
  have r7 : Has w7 w5.heap.size 30 (bv Hp) 32 := by rw [← hW7]; exact r6.row _ _ rfl
  have b7 : Below w5.heap.size w5 w7 := by rw [← hW7]; exact below_setRow b6 (Nat.le_refl _) _
  obtain ⟨w8, hW8⟩ : ∃ z, w7.alloc (.cells #[.int .i64 0, .int .i64 0, .slice none 0 0] 24) = z := ⟨_, rfl⟩
  have r8 : Has w8 w7.heap.size 24 (ledv 0 0 (.slice none 0 0)) 3 := by rw [← hW8, zeroL]; exact Has.new w7 24 _ 3 _ rfl
  have b8 : Below w7.heap.size w7 w8 := by rw [← hW8]; exact (Below.refl _ _).alloc (Nat.le_refl _) _
  have b58 : Below w5.heap.size w5 w8 := b7.trans (b8.mono b7.size)
  have l2 : p < w5.heap.size := h5.lt
  have l3 : w5.heap.size < w7.heap.size := r7.lt
  have KW0 : RWs w g0 g1 p w5.heap.size w7.heap.size Hp 0 0 (.slice none 0 0) [] s3 w8 := ⟨P0.out.below b58 P0.out.lt, P1.out.below b58 P1.out.lt, h5.below b58, r7.below b8 r7.lt, r8, OwnP.nil _ _, gb5.trans (b58.mono (Nat.le_of_lt P0.out.lt))⟩
  have R6 := hide r6
  clear r6 b6 r7 b7 r8 b8 b58 h5 gb5 P0 P1
  go_upto_region 6 with (first | refine wpList_storeHH rfl _ _ rfl rfl w5.heap.size Hp rfl rfl _ R6.out ?_ | (rw [hW7]; fail))
  try rw [hW7]
  try rw [hW8]
  generalize hgH : w5.heap.size = gH at KW0 l2 l3 ⊢
  generalize hgL : w7.heap.size = gL at KW0 l3 ⊢
  have HG : Hid (g0 < g1 ∧ g1 < p ∧ p < gH ∧ gH < gL) := ⟨l0, l1, l2, l3⟩
  clear hgH hgL hW6 hW7 hW8 R6 l0 l1 l2 l3
  have KW1 := hide KW0
  clear KW0
  go_wp2_with fail
  refine (Cu.rI64 p s3 _ KW1.out.rd X HX.out).mono ?_
  rintro e w9 ⟨rfl, h9, hM9⟩
  rw [HS4.out] at h9
  have KW2 := hide (KW1.out.mr hM9 h9 HG.out)
  clear hM9 h9 KW1
  have cz : w9.cell? ⟨gL, 0, none⟩ = some (.int .i64 0) := KW2.out.rL.cell 0 (by omega)
  have fz := KW2.out.rL.frozen 0
  obtain ⟨w10, hW10⟩ : ∃ z, w9.setCell ⟨gL, 0, none⟩ (.int .i64 X) = z := ⟨_, rfl⟩
  have KW3 : Hid (RWs w g0 g1 p gH gL Hp X 0 (.slice none 0 0) [] s4 w10) := by rw [← hW10]; exact KW2.out.setX HG.out X
  clear KW2
  go_upto_region 7 with fail
  try rw [hW10]
  clear cz fz hW10
  go_wp2_with fail
  refine (Cu.rI64 p s4 _ KW3.out.rd Y HY.out).mono ?_
  rintro e w11 ⟨rfl, h11, hM11⟩
  rw [HS5.out] at h11
  have KW4 := hide (KW3.out.mr hM11 h11 HG.out)
  clear hM11 h11 KW3
  have cz : w11.cell? ⟨gL, 1, none⟩ = some (.int .i64 0) := KW4.out.rL.cell 1 (by omega)
  have fz := KW4.out.rL.frozen 1
  obtain ⟨w12, hW12⟩ : ∃ z, w11.setCell ⟨gL, 1, none⟩ (.int .i64 Y) = z := ⟨_, rfl⟩
  have KW5 : Hid (RWs w g0 g1 p gH gL Hp X Y (.slice none 0 0) [] s5 w12) := by rw [← hW12]; exact KW4.out.setY HG.out Y
  clear KW4
  go_upto_region 8 with fail
  try rw [hW12]
  clear cz fz hW12
  go_wp2_with fail
  refine (Cu.rU16 p s5 _ KW5.out.rd).mono ?_
  rintro e w13 ⟨rfl, h13, hM13⟩
  rw [HKK.out]
  rw [HS6.out] at h13
  have KW6 := hide (KW5.out.mr hM13 h13 HG.out)
  clear hM13 h13 KW5
  go_wp2
  go_loopw [12] (fun cx wr => ∃ (c : Nat) (v : Value) (ps : List Pen) (st : RS), cx = .int .u16 (c : Int) ∧ Hid (RWs w g0 g1 p gH gL Hp X Y v ps st wr) ∧ Hid (ps.length + c = kk ∧ Rng ps ∧ ∀ o' n' h' x' y' l', RdOk b o' n' h' x' y' l' → ∃ j, j + c = l'.length ∧ eqL ps (l'.take j) ∧ st = (ofL (opensB (l'.drop j)), 0))) (fun cx _ => (intOf cx).toNat)
  case atStart => exact ⟨kk, _, [], s6, rfl, KW6.out, (by simp), (fun p hp => by cases hp), fun o' n' h' x' y' l' hr => ⟨0, by have := (HC.out o' n' h' x' y' l' hr).2.2.2.2.2.1; omega, by simpa using eqL_nil, by simpa using (HC.out o' n' h' x' y' l' hr).2.2.2.2.2.2⟩⟩
  case round =>
    obtain ⟨c, v, ps, st, rfl, KW, HI⟩ := hrel
    clear KW6
    have hcb : (c : Int) < 65536 := by have := HI.out.1; have := HKB.out; omega
    have HRN := hide HI.out.2.1
    have HLE : Hid (ps.length ≤ 65535) := by show _ ≤ _; have := HI.out.1; have := HKB.out; omega
    by_cases hc : 0 < c
    · have hd : decide (0 < (c : Int)) = true := decide_eq_true (by omega)
      have hd2 : decide (0 < c) = true := decide_eq_true hc
      have HCp := hide hc
      obtain ⟨er, her⟩ : ∃ z, st.2 = z := ⟨_, rfl⟩
      have HER := hide her
      clear her hc
      go_wp2_with fail
      refine (Cu.rErr p st _ KW.out.rd).mono ?_
      rintro e wx ⟨rfl, hx⟩
      obtain rfl := hx
      rw [HER.out]
      by_cases he0 : er = 0
      · subst he0
        have hst : Hid (st = (st.1, 0)) := by show _ = _; rw [← HER.out]
        go_wp2
        obtain ⟨adv, nv, cv, hv⟩ := KW.out.row.form
        subst hv
        refine wp_region_noPanic ?_
        refine wp_region_T (S := fun wx => Has wx gL 24 (ledv X Y (.slice adv nv cv)) 3) 7 (by kernel_rfl) (KW.out.rL.below (Below.refl _ _).drew KW.out.rL.lt) (fun hHeld => ?_)
        have KD := hide (KW.out.below (Below.refl _ _).drew)
        generalize hwd : World.drew wr = wd at hHeld KD ⊢
        refine takeT 0 (some 41) (.pointer (some ⟨gL, 2, none⟩)) rfl rfl (by kernel_rfl) (by kernel_rfl) (by kernel_rfl) (by kernel_rfl) (by decide) (fun _ _ _ h => h) (by rfl) (fun w hw => by first | rfl | (go_simp; done) | (go_simp; rfl) | (go_simp; omega)) hHeld ?_
        simp only [Act.put, List.setIfInBounds_toArray, List.set_cons_zero, List.set_cons_succ]
        refine takeT 1 (some 42) (.slice adv nv cv) rfl rfl (by kernel_rfl) (by kernel_rfl) (by kernel_rfl) (by kernel_rfl) (by decide) (fun _ _ _ h => h) (by rfl) (fun w hw => by have c : w.cell? ⟨gL, 2, none⟩ = some (.slice adv nv cv) := hw.cell 2 (by omega); first | (go_simp; done) | (go_simp; rfl)) hHeld ?_
        simp only [Act.put, List.setIfInBounds_toArray, List.set_cons_zero, List.set_cons_succ]
        refine takeT 2 (some 43) (.pointer (some ⟨p, 0, none⟩)) rfl rfl (by kernel_rfl) (by kernel_rfl) (by kernel_rfl) (by kernel_rfl) (by decide) (fun _ _ _ h => h) (by rfl) (fun w hw => by first | rfl | (go_simp; done) | (go_simp; rfl) | (go_simp; omega)) hHeld ?_
        simp only [Act.put, List.setIfInBounds_toArray, List.set_cons_zero, List.set_cons_succ]
        refine readyT 3 (by kernel_rfl) rfl (by rfl) (fun K hK => ?_)
        go_simp
        refine (take_any p st _ KD.out.rd).mono ?_
        rintro e wq ⟨rfl, hcq, hMq⟩
        try go_wp2_with fail
        have KQ := hide (KD.out.mr hMq hcq HG.out)
        refine hK.out _ _ (fun _ => KQ.out.rL) (fun hH => ?_)
        clear hK hH hHeld hcq hMq
        have hHeld := KQ.out.rL
        obtain ⟨v', wq1, wq2, rS, rA, oA, gr, bA⟩ := run_appPW wq (gL + 1) (.slice adv nv cv) ps (penR st) KQ.out.row (by have := HLE.out; omega) KQ.out.rL.lt
        obtain ⟨adn, nn, cn, hvn⟩ := oA.form
        subst hvn
        have eS : wq1 = wq.alloc (.cells (tabv (penR st).v 35) 36) := by
          have := run_sliceP wq (penR st)
          rw [rS] at this
          simpa using this
        refine readyT 4 (by kernel_rfl) rfl (by rfl) (fun K hK => ?_)
        refine wpRun (v := .slice (some ⟨wq.heap.size, 0, none⟩) 1 1) (w' := wq1) (by simp [execOp, rS, Act.eval, Result.andThen]) ?_
        simp only [Act.put, List.setIfInBounds_toArray, List.set_cons_zero, List.set_cons_succ]
        have hq1 : Has wq1 gL 24 (ledv X Y (.slice adv nv cv)) 3 := by rw [eS]; exact hHeld.old _
        refine hK.out _ _ (fun _ => hq1) (fun hH => ?_)
        clear hK hH hHeld
        have hHeld := hq1
        refine readyT 5 (by kernel_rfl) rfl (by rfl) (fun K hK => ?_)
        refine wpRun (v := .slice adn nn cn) (w' := wq2) (by simp [execOp, resolve, invoke, builtin, rA, Act.eval, Result.andThen]) ?_
        simp only [Act.put, List.setIfInBounds_toArray, List.set_cons_zero, List.set_cons_succ]
        have hq2 : Has wq2 gL 24 (ledv X Y (.slice adv nv cv)) 3 := KQ.out.rL.same (gr gL KQ.out.rL.lt (fun e => by have := (KQ.out.row.lt gL e).1; omega))
        refine hK.out _ _ (fun _ => hq2) (fun hH => ?_)
        clear hK hH hHeld hq1
        have hHeld := hq2
        refine takeT 6 (some 47) (.pointer (some ⟨gL, 2, none⟩)) rfl rfl (by kernel_rfl) (by kernel_rfl) (by kernel_rfl) (by kernel_rfl) (by decide) (fun _ _ _ h => h) (by rfl) (fun w hw => by first | rfl | (go_simp; done) | (go_simp; rfl) | (go_simp; omega)) hHeld ?_
        simp only [Act.put, List.setIfInBounds_toArray, List.set_cons_zero, List.set_cons_succ]
        have cg : wq2.cell? ⟨gL, 2, none⟩ = some (.slice adv nv cv) := hq2.cell 2 (by omega)
        have fg := hq2.frozen 2
        have KN := hide (KQ.out.app HG.out oA gr bA)
        refine readyT 7 (by kernel_rfl) rfl (by rfl) (fun K hK => ?_)
        go_simp
        refine hK.out _ _ (fun x => absurd rfl x) (fun _ => ?_)
        clear hK
        refine ⟨by kernel_rfl, ?_⟩
        refine NoPanic.normal ?_
        generalize hw3 : World.setCell wq2 ⟨gL, 2, none⟩ (.slice adn nn cn) = wz at KN ⊢
        clear hw3 cg fg hq2 hHeld rS rA oA gr bA eS KQ KD hwd
        obtain ⟨c0, hc0⟩ : ∃ c0, c = c0 + 1 := ⟨c - 1, by have := HCp.out; omega⟩
        have zc : IntKind.u16.wrap ((c : Int) - 1) = (c0 : Int) := by simp [IntKind.wrap, IntKind.bits, IntKind.signed]; omega
        have HI2 : Hid ((ps ++ [penR st]).length + c0 = kk ∧ Rng (ps ++ [penR st]) ∧ ∀ o' n' h' x' y' l', RdOk b o' n' h' x' y' l' → ∃ j, j + c0 = l'.length ∧ eqL (ps ++ [penR st]) (l'.take j) ∧ penS st = (ofL (opensB (l'.drop j)), 0)) := by
          refine ⟨by rw [List.length_append]; have := HI.out.1; simp; omega, fun q hq => ?_, fun o' n' h' x' y' l' hr => ?_⟩
          · rcases List.mem_append.1 hq with hq | hq
            · exact HI.out.2.1 q hq
            · rw [List.mem_singleton] at hq; subst hq; exact penR_rng st
          · obtain ⟨j, e1, e2, e3⟩ := HI.out.2.2 o' n' h' x' y' l' hr
            have hs := pen_step (fun _ hp => hr.snd.ok hp) hr.rng (by omega) e2
            rw [← e3] at hs
            exact ⟨j + 1, by omega, hs.1, hs.2⟩
        have HC0 : Hid (c = c0 + 1) := hc0
        clear hc0
        try go_wp2
        go_roundw
        case rel => exact ⟨c0, _, _, _, by first | rfl | (rw [zc]) | go_num, KN.out, HI2.out⟩
        case measure => have := HC0.out; simp [intOf]; omega
      · have x1 : (er == 0) = false := beq_false_of_ne he0
        have HE : Hid (∀ o' n' h' x' y' l', RdOk b o' n' h' x' y' l' → O = o' ∧ N = n' ∧ eqH Hp h' = true ∧ X = x' ∧ Y = y' ∧ eqL ps l') := fun o' n' h' x' y' l' hr => by
          obtain ⟨j, _, _, e⟩ := HI.out.2.2 o' n' h' x' y' l' hr
          exact absurd (by rw [← HER.out, e]) he0
        clear HC HI he0 HCp
        obtain ⟨adp, cp, hvp, hSp, _, _, _⟩ := KW.out.row.pens
        obtain ⟨np, hnp⟩ : ∃ n, ps.length = n := ⟨_, rfl⟩
        rw [hnp] at hvp
        subst hvp
        have HNP := hide hnp
        have HSP := hide hSp
        have hnp2 : np ≤ 65535 := by rw [← hnp]; exact HLE.out
        clear hSp hnp
        go_wp2_with (first | refine wpW_load_at 30 _ rfl (gH) (0) (by rfl) (by rfl) _ 32 _ (KW.out.rH.at_ 0 (by omega) (fun i hi => by rw [Nat.zero_add])) Try.underlying30 rfl info26 ?_ | refine wpW_load_at 24 _ rfl (gL) (0) (by rfl) (by rfl) _ 3 _ (KW.out.rL.at_ 0 (by omega) (fun i hi => by rw [Nat.zero_add])) Try.underlying24 rfl infoL ?_ | fail)
        refine (text_any O N Hp X Y adp np cp ps HNP.out (by omega) _ HSP.out).mono ?_
        rintro e w7 ⟨b', c', rfl, hTA, hb7⟩
        have KW7 := hide (KW.out.below hb7)
        have HTA := hide hTA
        clear hb7 hTA KW HSP
        by_cases hc0 : c' = 0
        · subst hc0
          by_cases hbb : b' = b
          · subst hbb
            have HR := hide (HTA.out.ok rfl)
            go_wp2
            refine wp_region_noPanic ?_
            refine wp_region_held_drew (S := fun wx => Has wx gH 30 (bv Hp) 32 ∧ Has wx gL 24 (ledv X Y (.slice adp np cp)) 3) (by kernel_rfl) (⟨KW7.out.rH.below (Below.refl _ _).drew KW7.out.rH.lt, KW7.out.rL.below (Below.refl _ _).drew KW7.out.rL.lt⟩) (fun hHeld => ?_)
            have KD := hide (KW7.out.below (Below.refl _ _).drew)
            generalize hwd : World.drew w7 = wd at hHeld KD ⊢
            refine takeH 0 (some 65) (.int .i64 O) rfl rfl (by kernel_rfl) (by kernel_rfl) (by kernel_rfl) (fun _ _ _ h => h) (by rfl) (fun w hw => by first | rfl | (go_simp; done) | (go_simp; rfl) | (go_simp; omega)) hHeld ?_
            simp only [Act.put, List.setIfInBounds_toArray, List.set_cons_zero, List.set_cons_succ]
            refine takeH 1 (some 66) (.int .i64 N) rfl rfl (by kernel_rfl) (by kernel_rfl) (by kernel_rfl) (fun _ _ _ h => h) (by rfl) (fun w hw => by first | rfl | (go_simp; done) | (go_simp; rfl) | (go_simp; omega)) hHeld ?_
            simp only [Act.put, List.setIfInBounds_toArray, List.set_cons_zero, List.set_cons_succ]
            refine takeH 2 (some 67) (.agg (tabv (bv Hp) 32)) rfl rfl (by kernel_rfl) (by kernel_rfl) (by kernel_rfl) (fun _ _ _ h => h) (by rfl) (fun w hw => run_load_at w 30 _ rfl gH 0 (by rfl) _ 32 _ (hw.1.at_ 0 (by omega) (fun i hi => by rw [Nat.zero_add])) Try.underlying30 rfl info26) hHeld ?_
            simp only [Act.put, List.setIfInBounds_toArray, List.set_cons_zero, List.set_cons_succ]
            refine takeH 3 (some 68) (.agg (tabv (ledv X Y (.slice adp np cp)) 3)) rfl rfl (by kernel_rfl) (by kernel_rfl) (by kernel_rfl) (fun _ _ _ h => h) (by rfl) (fun w hw => run_load_at w 24 _ rfl gL 0 (by rfl) _ 3 _ (hw.2.at_ 0 (by omega) (fun i hi => by rw [Nat.zero_add])) Try.underlying24 rfl infoL) hHeld ?_
            simp only [Act.put, List.setIfInBounds_toArray, List.set_cons_zero, List.set_cons_succ]
            refine takeH 4 (some 2) (.int .i64 O) rfl rfl (by kernel_rfl) (by kernel_rfl) (by kernel_rfl) (fun _ _ _ h => h) (by rfl) (fun w hw => by first | rfl | (go_simp; done) | (go_simp; rfl) | (go_simp; omega)) hHeld ?_
            simp only [Act.put, List.setIfInBounds_toArray, List.set_cons_zero, List.set_cons_succ]
            refine takeH 5 (some 3) (.int .i64 N) rfl rfl (by kernel_rfl) (by kernel_rfl) (by kernel_rfl) (fun _ _ _ h => h) (by rfl) (fun w hw => by first | rfl | (go_simp; done) | (go_simp; rfl) | (go_simp; omega)) hHeld ?_
            simp only [Act.put, List.setIfInBounds_toArray, List.set_cons_zero, List.set_cons_succ]
            refine wpAnyH_ready (rs := [6]) (by kernel_rfl) (by simp) (AllReadyH.cons rfl (fun K hK => ?_) AllReadyH.nil)
            rw [if_pos (by rfl)]
            refine wp_store_part 30 _ _ rfl rfl g0 0 (bv Hp) 32 rfl rfl 30 _ 32 KD.out.r0 (by omega) info26 (fun i _ => rfl) (bv Hp) (fun i hi => by unfold splice; rw [if_pos (by omega), Nat.sub_zero]) ?_
            refine hK.out _ _ ⟨hHeld.1.row_other _ _ (by have := HG.out; omega), hHeld.2.row_other _ _ (by have := HG.out; omega)⟩ (fun hH => ?_)
            clear hK hHeld
            have hHeld := hH
            clear hH
            refine wpAnyH_ready (rs := [7]) (by kernel_rfl) (by simp) (AllReadyH.cons rfl (fun K hK => ?_) AllReadyH.nil)
            rw [if_pos (by rfl)]
            have r1' := KD.out.r1.row_other g0 (tabv (bv Hp) 32) (by have := HG.out; omega)
            refine wp_store_part 24 _ _ rfl rfl g1 0 (ledv X Y (.slice adp np cp)) 3 rfl rfl 24 _ 3 r1' (by omega) infoL (fun i _ => one_ledv _ _ _ rfl i) (ledv X Y (.slice adp np cp)) (fun i hi => by unfold splice; rw [if_pos (by omega), Nat.sub_zero]) ?_
            refine hK.out _ _ ⟨hHeld.1.row_other _ _ (by have := HG.out; omega), hHeld.2.row_other _ _ (by have := HG.out; omega)⟩ (fun hH => ?_)
            clear hK hHeld
            have hHeld := hH
            clear hH
            refine takeH 8 (some 6) (.int .i64 0) rfl rfl (by kernel_rfl) (by kernel_rfl) (by kernel_rfl) (fun _ _ _ h => h) (by rfl) (fun w hw => by first | rfl | (go_simp; done) | (go_simp; rfl) | (go_simp; omega)) hHeld ?_
            simp only [Act.put, List.setIfInBounds_toArray, List.set_cons_zero, List.set_cons_succ]
            refine ⟨by kernel_rfl, ?_⟩
            refine NoPanic.normal ?_
            try go_wp2
            have q0 := (KD.out.r0.row (tabv (bv Hp) 32) (bv Hp) rfl).row_other g1 (tabv (ledv X Y (.slice adp np cp)) 3) (by have := HG.out; omega)
            have q1 := r1'.row (tabv (ledv X Y (.slice adp np cp)) 3) (ledv X Y (.slice adp np cp)) rfl
            have hOF := (KD.out.row.same (fun i hi => (setRow_other _ _ _ _ (by have := (KD.out.row.lt i hi).1; have := HG.out; omega)).trans (setRow_other _ _ _ _ (by have := (KD.out.row.lt i hi).1; have := HG.out; omega)) : ∀ i, (Value.slice adp np cp).ownBlock = some i → ((wd.setRow g0 (tabv (bv Hp) 32)).setRow g1 (tabv (ledv X Y (.slice adp np cp)) 3)).heap[i]? = wd.heap[i]?))
            exact bodyPost_ret (resR5 _ g0 g1 _ _ _ _ _ _ q0 q1 rfl rfl rfl rfl rfl _ rfl) rfl (rdPost O N Hp X Y ps _ 0 rfl (by first | exact hOF.mono (by have := HG.out; omega) | (rw [hg0]; exact hOF.mono (by have := HG.out; omega))) (by first | exact below_setRow (below_setRow KD.out.bel (Nat.le_refl _) _) (by have := HG.out; omega) _ | (rw [hg0]; exact below_setRow (below_setRow KD.out.bel (Nat.le_refl _) _) (by have := HG.out; omega) _)) (.inl ⟨rfl, HR.out.1, HR.out.2.1, HRN.out, HR.out.2.2⟩))
          · have x3 : (b'.toList == b.toList) = false := beq_false_of_ne (ba_ne hbb)
            have x4 : ¬ b'.toList = b.toList := ba_ne hbb
            have HNO : Hid (∀ o' n' h' x' y' l', ¬ RdOk b o' n' h' x' y' l') := fun o' n' h' x' y' l' hr => by
              obtain ⟨e1, e2, e3, e4, e5, e6⟩ := HE.out o' n' h' x' y' l' hr
              have := (HTA.out.good (by rw [e1, e2]; exact hr.arg) (by rw [e4, e5]; exact hr.snd.congr (eqL_symm e6))).1
              rw [e1, e2, e4, e5, textB_congr e3 e6, ← hr.eq] at this
              exact hbb this
            have q1' := hide (KW7.out.r1.row_other g0 (tabv (bv (fun _ => (0 : UInt8))) 32) (by have := HG.out; omega))
            go_wp2_with (first | refine wpW_build (by rfl) 30 #[] rfl [] (by simp) _ builtH0 ?_ | refine wpW_build (by rfl) 24 #[] rfl [] (by simp) _ builtL0 ?_ | refine wpList_storeHH rfl _ _ rfl rfl g0 (fun _ => 0) rfl rfl _ KW7.out.r0 ?_ | refine wpList_storeL rfl _ _ rfl rfl g1 0 0 (.slice none 0 0) rfl rfl rfl _ q1'.out ?_)
            have q0 := (KW7.out.r0.row (tabv (bv (fun _ => (0 : UInt8))) 32) (bv (fun _ => 0)) rfl).row_other g1 (tabv (ledv 0 0 (.slice none 0 0)) 3) (by have := HG.out; omega)
            have q1 := q1'.out.row (tabv (ledv 0 0 (.slice none 0 0)) 3) (ledv 0 0 (.slice none 0 0)) rfl
            exact bodyPost_ret (resR5 _ g0 g1 _ _ _ _ _ _ q0 q1 rfl rfl rfl rfl rfl _ rfl) rfl (rdPost 0 0 (fun _ => 0) 0 0 [] (.slice none 0 0) 4 rfl (OwnP.nil _ _) (by first | exact below_setRow (below_setRow KW7.out.bel (Nat.le_refl _) _) (by have := HG.out; omega) _ | (rw [hg0]; exact below_setRow (below_setRow KW7.out.bel (Nat.le_refl _) _) (by have := HG.out; omega) _)) (.inr ⟨rfl, rfl, rfl, rfl, rfl, rfl, rfl, HNO.out⟩))
        · have x1 : (c' == 0) = false := beq_false_of_ne hc0
          have x2 : (c' != 0) = true := bne_iff_ne.2 hc0
          have HNO : Hid (∀ o' n' h' x' y' l', ¬ RdOk b o' n' h' x' y' l') := fun o' n' h' x' y' l' hr => by
            obtain ⟨e1, e2, e3, e4, e5, e6⟩ := HE.out o' n' h' x' y' l' hr
            exact hc0 (HTA.out.good (by rw [e1, e2]; exact hr.arg) (by rw [e4, e5]; exact hr.snd.congr (eqL_symm e6))).2
          have q1' := hide (KW7.out.r1.row_other g0 (tabv (bv (fun _ => (0 : UInt8))) 32) (by have := HG.out; omega))
          go_wp2_with (first | refine wpW_build (by rfl) 30 #[] rfl [] (by simp) _ builtH0 ?_ | refine wpW_build (by rfl) 24 #[] rfl [] (by simp) _ builtL0 ?_ | refine wpList_storeHH rfl _ _ rfl rfl g0 (fun _ => 0) rfl rfl _ KW7.out.r0 ?_ | refine wpList_storeL rfl _ _ rfl rfl g1 0 0 (.slice none 0 0) rfl rfl rfl _ q1'.out ?_)
          have q0 := (KW7.out.r0.row (tabv (bv (fun _ => (0 : UInt8))) 32) (bv (fun _ => 0)) rfl).row_other g1 (tabv (ledv 0 0 (.slice none 0 0)) 3) (by have := HG.out; omega)
          have q1 := q1'.out.row (tabv (ledv 0 0 (.slice none 0 0)) 3) (ledv 0 0 (.slice none 0 0)) rfl
          exact bodyPost_ret (resR5 _ g0 g1 _ _ _ _ _ _ q0 q1 rfl rfl rfl rfl rfl _ rfl) rfl (rdPost 0 0 (fun _ => 0) 0 0 [] (.slice none 0 0) 4 rfl (OwnP.nil _ _) (by first | exact below_setRow (below_setRow KW7.out.bel (Nat.le_refl _) _) (by have := HG.out; omega) _ | (rw [hg0]; exact below_setRow (below_setRow KW7.out.bel (Nat.le_refl _) _) (by have := HG.out; omega) _)) (.inr ⟨rfl, rfl, rfl, rfl, rfl, rfl, rfl, HNO.out⟩))
    · have hd : decide (0 < (c : Int)) = false := decide_eq_false (by omega)
      have hd2 : decide (0 < c) = false := decide_eq_false hc
      have HE : Hid (∀ o' n' h' x' y' l', RdOk b o' n' h' x' y' l' → O = o' ∧ N = n' ∧ eqH Hp h' = true ∧ X = x' ∧ Y = y' ∧ eqL ps l') := fun o' n' h' x' y' l' hr => by
        obtain ⟨j, e1, e2, _⟩ := HI.out.2.2 o' n' h' x' y' l' hr
        obtain ⟨a1, a2, a3, a4, a5, _⟩ := HC.out o' n' h' x' y' l' hr
        rw [List.take_of_length_le (by omega)] at e2
        exact ⟨a1, a2, a3, a4, a5, e2⟩
      clear HC HI hc
      obtain ⟨adp, cp, hvp, hSp, _, _, _⟩ := KW.out.row.pens
      obtain ⟨np, hnp⟩ : ∃ n, ps.length = n := ⟨_, rfl⟩
      rw [hnp] at hvp
      subst hvp
      have HNP := hide hnp
      have HSP := hide hSp
      have hnp2 : np ≤ 65535 := by rw [← hnp]; exact HLE.out
      clear hSp hnp
      go_wp2_with (first | refine wpW_load_at 30 _ rfl (gH) (0) (by rfl) (by rfl) _ 32 _ (KW.out.rH.at_ 0 (by omega) (fun i hi => by rw [Nat.zero_add])) Try.underlying30 rfl info26 ?_ | refine wpW_load_at 24 _ rfl (gL) (0) (by rfl) (by rfl) _ 3 _ (KW.out.rL.at_ 0 (by omega) (fun i hi => by rw [Nat.zero_add])) Try.underlying24 rfl infoL ?_ | fail)
      refine (text_any O N Hp X Y adp np cp ps HNP.out (by omega) _ HSP.out).mono ?_
      rintro e w7 ⟨b', c', rfl, hTA, hb7⟩
      have KW7 := hide (KW.out.below hb7)
      have HTA := hide hTA
      clear hb7 hTA KW HSP
      by_cases hc0 : c' = 0
      · subst hc0
        by_cases hbb : b' = b
        · subst hbb
          have HR := hide (HTA.out.ok rfl)
          go_wp2
          refine wp_region_noPanic ?_
          refine wp_region_held_drew (S := fun wx => Has wx gH 30 (bv Hp) 32 ∧ Has wx gL 24 (ledv X Y (.slice adp np cp)) 3) (by kernel_rfl) (⟨KW7.out.rH.below (Below.refl _ _).drew KW7.out.rH.lt, KW7.out.rL.below (Below.refl _ _).drew KW7.out.rL.lt⟩) (fun hHeld => ?_)
          have KD := hide (KW7.out.below (Below.refl _ _).drew)
          generalize hwd : World.drew w7 = wd at hHeld KD ⊢
          refine takeH 0 (some 65) (.int .i64 O) rfl rfl (by kernel_rfl) (by kernel_rfl) (by kernel_rfl) (fun _ _ _ h => h) (by rfl) (fun w hw => by first | rfl | (go_simp; done) | (go_simp; rfl) | (go_simp; omega)) hHeld ?_
          simp only [Act.put, List.setIfInBounds_toArray, List.set_cons_zero, List.set_cons_succ]
          refine takeH 1 (some 66) (.int .i64 N) rfl rfl (by kernel_rfl) (by kernel_rfl) (by kernel_rfl) (fun _ _ _ h => h) (by rfl) (fun w hw => by first | rfl | (go_simp; done) | (go_simp; rfl) | (go_simp; omega)) hHeld ?_
          simp only [Act.put, List.setIfInBounds_toArray, List.set_cons_zero, List.set_cons_succ]
          refine takeH 2 (some 67) (.agg (tabv (bv Hp) 32)) rfl rfl (by kernel_rfl) (by kernel_rfl) (by kernel_rfl) (fun _ _ _ h => h) (by rfl) (fun w hw => run_load_at w 30 _ rfl gH 0 (by rfl) _ 32 _ (hw.1.at_ 0 (by omega) (fun i hi => by rw [Nat.zero_add])) Try.underlying30 rfl info26) hHeld ?_
          simp only [Act.put, List.setIfInBounds_toArray, List.set_cons_zero, List.set_cons_succ]
          refine takeH 3 (some 68) (.agg (tabv (ledv X Y (.slice adp np cp)) 3)) rfl rfl (by kernel_rfl) (by kernel_rfl) (by kernel_rfl) (fun _ _ _ h => h) (by rfl) (fun w hw => run_load_at w 24 _ rfl gL 0 (by rfl) _ 3 _ (hw.2.at_ 0 (by omega) (fun i hi => by rw [Nat.zero_add])) Try.underlying24 rfl infoL) hHeld ?_
          simp only [Act.put, List.setIfInBounds_toArray, List.set_cons_zero, List.set_cons_succ]
          refine takeH 4 (some 2) (.int .i64 O) rfl rfl (by kernel_rfl) (by kernel_rfl) (by kernel_rfl) (fun _ _ _ h => h) (by rfl) (fun w hw => by first | rfl | (go_simp; done) | (go_simp; rfl) | (go_simp; omega)) hHeld ?_
          simp only [Act.put, List.setIfInBounds_toArray, List.set_cons_zero, List.set_cons_succ]
          refine takeH 5 (some 3) (.int .i64 N) rfl rfl (by kernel_rfl) (by kernel_rfl) (by kernel_rfl) (fun _ _ _ h => h) (by rfl) (fun w hw => by first | rfl | (go_simp; done) | (go_simp; rfl) | (go_simp; omega)) hHeld ?_
          simp only [Act.put, List.setIfInBounds_toArray, List.set_cons_zero, List.set_cons_succ]
          refine wpAnyH_ready (rs := [6]) (by kernel_rfl) (by simp) (AllReadyH.cons rfl (fun K hK => ?_) AllReadyH.nil)
          rw [if_pos (by rfl)]
          refine wp_store_part 30 _ _ rfl rfl g0 0 (bv Hp) 32 rfl rfl 30 _ 32 KD.out.r0 (by omega) info26 (fun i _ => rfl) (bv Hp) (fun i hi => by unfold splice; rw [if_pos (by omega), Nat.sub_zero]) ?_
          refine hK.out _ _ ⟨hHeld.1.row_other _ _ (by have := HG.out; omega), hHeld.2.row_other _ _ (by have := HG.out; omega)⟩ (fun hH => ?_)
          clear hK hHeld
          have hHeld := hH
          clear hH
          refine wpAnyH_ready (rs := [7]) (by kernel_rfl) (by simp) (AllReadyH.cons rfl (fun K hK => ?_) AllReadyH.nil)
          rw [if_pos (by rfl)]
          have r1' := KD.out.r1.row_other g0 (tabv (bv Hp) 32) (by have := HG.out; omega)
          refine wp_store_part 24 _ _ rfl rfl g1 0 (ledv X Y (.slice adp np cp)) 3 rfl rfl 24 _ 3 r1' (by omega) infoL (fun i _ => one_ledv _ _ _ rfl i) (ledv X Y (.slice adp np cp)) (fun i hi => by unfold splice; rw [if_pos (by omega), Nat.sub_zero]) ?_
          refine hK.out _ _ ⟨hHeld.1.row_other _ _ (by have := HG.out; omega), hHeld.2.row_other _ _ (by have := HG.out; omega)⟩ (fun hH => ?_)
          clear hK hHeld
          have hHeld := hH
          clear hH
          refine takeH 8 (some 6) (.int .i64 0) rfl rfl (by kernel_rfl) (by kernel_rfl) (by kernel_rfl) (fun _ _ _ h => h) (by rfl) (fun w hw => by first | rfl | (go_simp; done) | (go_simp; rfl) | (go_simp; omega)) hHeld ?_
          simp only [Act.put, List.setIfInBounds_toArray, List.set_cons_zero, List.set_cons_succ]
          refine ⟨by kernel_rfl, ?_⟩
          refine NoPanic.normal ?_
          try go_wp2
          have q0 := (KD.out.r0.row (tabv (bv Hp) 32) (bv Hp) rfl).row_other g1 (tabv (ledv X Y (.slice adp np cp)) 3) (by have := HG.out; omega)
          have q1 := r1'.row (tabv (ledv X Y (.slice adp np cp)) 3) (ledv X Y (.slice adp np cp)) rfl
          have hOF := (KD.out.row.same (fun i hi => (setRow_other _ _ _ _ (by have := (KD.out.row.lt i hi).1; have := HG.out; omega)).trans (setRow_other _ _ _ _ (by have := (KD.out.row.lt i hi).1; have := HG.out; omega)) : ∀ i, (Value.slice adp np cp).ownBlock = some i → ((wd.setRow g0 (tabv (bv Hp) 32)).setRow g1 (tabv (ledv X Y (.slice adp np cp)) 3)).heap[i]? = wd.heap[i]?))
          exact bodyPost_ret (resR5 _ g0 g1 _ _ _ _ _ _ q0 q1 rfl rfl rfl rfl rfl _ rfl) rfl (rdPost O N Hp X Y ps _ 0 rfl (by first | exact hOF.mono (by have := HG.out; omega) | (rw [hg0]; exact hOF.mono (by have := HG.out; omega))) (by first | exact below_setRow (below_setRow KD.out.bel (Nat.le_refl _) _) (by have := HG.out; omega) _ | (rw [hg0]; exact below_setRow (below_setRow KD.out.bel (Nat.le_refl _) _) (by have := HG.out; omega) _)) (.inl ⟨rfl, HR.out.1, HR.out.2.1, HRN.out, HR.out.2.2⟩))
        · have x3 : (b'.toList == b.toList) = false := beq_false_of_ne (ba_ne hbb)
          have x4 : ¬ b'.toList = b.toList := ba_ne hbb
          have HNO : Hid (∀ o' n' h' x' y' l', ¬ RdOk b o' n' h' x' y' l') := fun o' n' h' x' y' l' hr => by
            obtain ⟨e1, e2, e3, e4, e5, e6⟩ := HE.out o' n' h' x' y' l' hr
            have := (HTA.out.good (by rw [e1, e2]; exact hr.arg) (by rw [e4, e5]; exact hr.snd.congr (eqL_symm e6))).1
            rw [e1, e2, e4, e5, textB_congr e3 e6, ← hr.eq] at this
            exact hbb this
          have q1' := hide (KW7.out.r1.row_other g0 (tabv (bv (fun _ => (0 : UInt8))) 32) (by have := HG.out; omega))
          go_wp2_with (first | refine wpW_build (by rfl) 30 #[] rfl [] (by simp) _ builtH0 ?_ | refine wpW_build (by rfl) 24 #[] rfl [] (by simp) _ builtL0 ?_ | refine wpList_storeHH rfl _ _ rfl rfl g0 (fun _ => 0) rfl rfl _ KW7.out.r0 ?_ | refine wpList_storeL rfl _ _ rfl rfl g1 0 0 (.slice none 0 0) rfl rfl rfl _ q1'.out ?_)
          have q0 := (KW7.out.r0.row (tabv (bv (fun _ => (0 : UInt8))) 32) (bv (fun _ => 0)) rfl).row_other g1 (tabv (ledv 0 0 (.slice none 0 0)) 3) (by have := HG.out; omega)
          have q1 := q1'.out.row (tabv (ledv 0 0 (.slice none 0 0)) 3) (ledv 0 0 (.slice none 0 0)) rfl
          exact bodyPost_ret (resR5 _ g0 g1 _ _ _ _ _ _ q0 q1 rfl rfl rfl rfl rfl _ rfl) rfl (rdPost 0 0 (fun _ => 0) 0 0 [] (.slice none 0 0) 4 rfl (OwnP.nil _ _) (by first | exact below_setRow (below_setRow KW7.out.bel (Nat.le_refl _) _) (by have := HG.out; omega) _ | (rw [hg0]; exact below_setRow (below_setRow KW7.out.bel (Nat.le_refl _) _) (by have := HG.out; omega) _)) (.inr ⟨rfl, rfl, rfl, rfl, rfl, rfl, rfl, HNO.out⟩))
      · have x1 : (c' == 0) = false := beq_false_of_ne hc0
        have x2 : (c' != 0) = true := bne_iff_ne.2 hc0
        have HNO : Hid (∀ o' n' h' x' y' l', ¬ RdOk b o' n' h' x' y' l') := fun o' n' h' x' y' l' hr => by
          obtain ⟨e1, e2, e3, e4, e5, e6⟩ := HE.out o' n' h' x' y' l' hr
          exact hc0 (HTA.out.good (by rw [e1, e2]; exact hr.arg) (by rw [e4, e5]; exact hr.snd.congr (eqL_symm e6))).2
        have q1' := hide (KW7.out.r1.row_other g0 (tabv (bv (fun _ => (0 : UInt8))) 32) (by have := HG.out; omega))
        go_wp2_with (first | refine wpW_build (by rfl) 30 #[] rfl [] (by simp) _ builtH0 ?_ | refine wpW_build (by rfl) 24 #[] rfl [] (by simp) _ builtL0 ?_ | refine wpList_storeHH rfl _ _ rfl rfl g0 (fun _ => 0) rfl rfl _ KW7.out.r0 ?_ | refine wpList_storeL rfl _ _ rfl rfl g1 0 0 (.slice none 0 0) rfl rfl rfl _ q1'.out ?_)
        have q0 := (KW7.out.r0.row (tabv (bv (fun _ => (0 : UInt8))) 32) (bv (fun _ => 0)) rfl).row_other g1 (tabv (ledv 0 0 (.slice none 0 0)) 3) (by have := HG.out; omega)
        have q1 := q1'.out.row (tabv (ledv 0 0 (.slice none 0 0)) 3) (ledv 0 0 (.slice none 0 0)) rfl
        exact bodyPost_ret (resR5 _ g0 g1 _ _ _ _ _ _ q0 q1 rfl rfl rfl rfl rfl _ rfl) rfl (rdPost 0 0 (fun _ => 0) 0 0 [] (.slice none 0 0) 4 rfl (OwnP.nil _ _) (by first | exact below_setRow (below_setRow KW7.out.bel (Nat.le_refl _) _) (by have := HG.out; omega) _ | (rw [hg0]; exact below_setRow (below_setRow KW7.out.bel (Nat.le_refl _) _) (by have := HG.out; omega) _)) (.inr ⟨rfl, rfl, rfl, rfl, rfl, rfl, rfl, HNO.out⟩))
end Go.Proofs.Ythmbpddpdbkioaa
