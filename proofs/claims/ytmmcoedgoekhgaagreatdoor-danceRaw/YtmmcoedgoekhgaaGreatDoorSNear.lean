import Derived.Test.YtmmcoedgoekhgaaGreatDoorGSortM
import Derived.Test.YtmmcoedgoekhgaaGreatDoorSRef
import Derived.Deep.RegionHeld3
import Derived.BigQuiet
import Derived.Test.YtmmcoedgoekhgaaGreatDoorRows
import Derived.ProofKit
import Derived.OpenShut
import Derived.Lib.LaidTab
/-
  The document's Secret, Level and Derive.
-/
namespace Go.Proofs.YtmmcoedgoekhgaaGreatDoor
set_option maxRecDepth 20000
open Go.RowKit S
set_option linter.unusedVariables false
def secretA (h : Nat → UInt8) (n : Int) : (Nat → UInt8) × Int := if isN n = true then (secretOf step h n.toNat, 0) else (fun _ => 0, 90)
def levelA (n : Int) : Int × Int := if isN n = true then ((lvl (place n.toNat) 48 : Int), 0) else (0, 90)
theorem place_num {n : Int} (h : isN n = true) : n = 281474976710655 - (place n.toNat : Int) ∧ place n.toNat ≤ 281474976710655 := by
  rw [isN_iff] at h
  unfold place
  omega
theorem resCT (w : World) (g : Nat) (f : Nat → Value) (tmps : Array Value) (k : Int) (c t : Nat) (hg : Has w g 23 f 32) (hp : tmps.getD c undef = .pointer (some ⟨g, 0, none⟩)) (hq : tmps.getD t undef = .int .i64 k) (fn : Func) (h : fn.results = #[.cell c 23, .tmp t]) :
    (results fn tmps).run Tryz.prog w = .ok (.tuple #[.agg (tabv f 32), .int .i64 k]) w := by
  rw [results_cell_tmp h, hp, hq]
  have := run_loadVar_row (P := Tryz.prog) w g 23 23 (tabv f 32) (0, 0) _ hg Tryz.underlying23 rfl (by rw [tabv_size]; exact info26)
  simp [asAddr, this]
theorem wp_store_partS {P : Program} {o : Oper} {a : Act} {w : World} {K : Act → World → Prop} {Q : Exit → Act → World → Prop} (ty : TypeId) (x y : Operand) (ho : o.op = .store ty x y) (hd : o.dst = none)
    (g of : Nat) (h : Nat → Value) (m : Nat) (hx : a.eval x = .pointer (some ⟨g, of, none⟩)) (hy : a.eval y = .agg (tabv h m))
    (t : TypeId) (f : Nat → Value) (M : Nat) (hg : Has w g t f M) (hm : of + m ≤ M) (hi : (P.info? ty).map (·.size) = some m)
    (h1 : ∀ i, i < m → (h i).oneCell' = true) (f' : Nat → Value) (hf : ∀ i, i < M → splice f of h m i = f' i)
    (hk : K a (w.setRow g (tabv f' M))) : o.wp P a w K Q := by
  unfold Oper.wp execOp
  simp only [ho, hx, hy, Instr.storeAt, Instr.sureAddr, Sem.run_bind, Sem.run_pure, Result.andThen_ok, run_storeVar_part w g of t ty f h M m hg hm hi h1]
  rw [tabv_congr _ f' M hf]
  unfold Oper.upon
  first | exact hk | (simp only [hd]; exact hk)
set_option maxRecDepth 100000 in
set_option maxHeartbeats 2000000 in
theorem rSecret_any (n : Num) (h : Nat → UInt8) (x : Int) (w : World) : Calls Tryz.prog 36 #[.agg (tabv (bv h) 32), .int .i64 x] w fun e w' => e = .returned (.tuple #[.agg (tabv (bv (secretA h x).1) 32), .int .i64 (secretA h x).2]) ∧ Below w.heap.size w w' := by
  obtain ⟨w3, hW⟩ : ∃ w3, (w.alloc (.cells (tabv (bv h) 32) 23)).alloc (.cells (tabv (fun _ => .int .u8 0) 32) 23) = w3 := ⟨_, rfl⟩
  have g0 : Has w3 w.heap.size 23 (bv h) 32 := by rw [← hW]; exact (Has.new w 23 (bv h) 32 _ rfl).old _
  have g1 : Has w3 (w.heap.size + 1) 23 (fun _ => .int .u8 0) 32 := by
    rw [← hW]
    have := Has.new (w.alloc (.cells (tabv (bv h) 32) 23)) 23 (fun _ => .int .u8 0) 32 _ rfl
    rw [size_alloc] at this
    exact this
  have gb : Below w.heap.size w w3 := by rw [← hW]; exact ((Below.refl w.heap.size w).alloc (Nat.le_refl _) _).alloc (by simp) _
  rw [zero32] at hW
  cases hx : isN x with
  | false =>
    have e : secretA h x = (fun _ => 0, 90) := by unfold secretA; rw [if_neg (by rw [hx]; decide)]
    rw [e]
    have HX := hide hx
    clear hx e
    go_enter Tryz.func36, Tryz.ntmps36
    go_wp2_with fail
    refine (rgood_any _ _).mono ?_
    rintro e w4 ⟨rfl, rfl⟩
    rw [HX.out]
    clear hW
    go_wp2_with (refine wpList_store_part rfl 23 _ _ rfl rfl (w.heap.size + 1) 0 (bv (fun _ => 0)) 32 rfl rfl 23 _ 32 g1 (by omega) info26 (fun _ _ => rfl) (bv (fun _ => 0)) (fun i hi => by unfold splice; rw [if_pos (by omega)]; rfl) ?_)
    exact bodyPost_ret (resCT _ (w.heap.size + 1) _ _ 90 4 5 (g1.row _ (bv (fun _ => 0)) rfl) rfl rfl _ rfl) rfl ⟨rfl, below_setRow gb (by omega) _⟩
  | true =>
    have e : secretA h x = (secretOf step h x.toNat, 0) := by unfold secretA; rw [if_pos hx]
    rw [e]
    obtain ⟨h1, h2⟩ := place_num hx
    have hsec : secretOf step h x.toNat = goDown step (place x.toNat) 48 0 h := rfl
    rw [hsec]
    obtain ⟨p, hp⟩ : ∃ p, place x.toNat = p := ⟨_, rfl⟩
    rw [hp] at h1 h2 ⊢
    have HP := fun w => rplace_any p h2 w
    rw [← h1] at HP
    have HP := hide HP
    have HX := hide hx
    clear hx e h1 h2 hp hsec
    go_enter Tryz.func36, Tryz.ntmps36
    go_wp2_with fail
    refine (rgood_any _ _).mono ?_
    rintro e w4 ⟨rfl, rfl⟩
    rw [HX.out]
    clear hW
    go_wp2
    obtain ⟨V0, hV0⟩ : ∃ v, w4.drew = v := ⟨_, rfl⟩
    have v0 : Has V0 w.heap.size 23 (bv h) 32 := by rw [← hV0]; exact g0
    have v1 : Has V0 (w.heap.size + 1) 23 (fun _ => .int .u8 0) 32 := by rw [← hV0]; exact g1
    have vb : Below w.heap.size w V0 := by rw [← hV0]; exact ⟨gb.os, gb.tape, gb.output, gb.size, gb.block⟩
    have HV0 := hide hV0
    clear hV0 g0 g1 gb
    refine wp_region_noPanic ?_
    refine wp_region_held_drew (S := fun wx => Has wx w.heap.size 23 (bv h) 32) (by kernel_rfl) (by rw [HV0.out]; exact v0) (fun hHeld => ?_)
    rw [HV0.out] at hHeld ⊢
    refine takeH 0 (some 10) (.agg (tabv (bv h) 32)) rfl rfl (by kernel_rfl) (by kernel_rfl) (by kernel_rfl) (fun _ _ _ h => h) (by rfl) (fun wx hw => run_load_part wx 23 _ rfl w.heap.size 0 rfl 23 _ 32 32 _ hw (by omega) Tryz.underlying23 rfl info26 (bv h) (fun i hi => by rw [Nat.zero_add])) hHeld ?_
    simp only [Act.put, List.setIfInBounds_toArray, List.set_cons_zero, List.set_cons_succ]
    refine takeH 1 (some 11) (.int .i64 x) rfl rfl (by kernel_rfl) (by kernel_rfl) (by kernel_rfl) (fun _ _ _ h => h) (by rfl) (fun w hw => by first | rfl | (go_simp; done) | (go_simp; rfl)) hHeld ?_
    simp only [Act.put, List.setIfInBounds_toArray, List.set_cons_zero, List.set_cons_succ]
    refine wpAnyH_ready (rs := [2]) (by kernel_rfl) (by simp) (AllReadyH.cons rfl (fun K hK => ?_) AllReadyH.nil)
    rw [if_pos (by rfl)]
    go_simp
    refine (HP.out _).mono ?_
    rintro e w5 ⟨rfl, hb5⟩
    try go_wp2_with fail
    refine hK.out _ _ (hHeld.below hb5 hHeld.lt) (fun hH => ?_)
    clear hK K hHeld
    have hHeld := hH
    clear hH
    have u1 := v1.below hb5 v1.lt
    have ub := vb.trans (hb5.mono vb.size)
    refine wpAnyH_ready (rs := [3]) (by kernel_rfl) (by simp) (AllReadyH.cons rfl (fun K hK => ?_) AllReadyH.nil)
    rw [if_pos (by rfl)]
    go_simp
    refine (rdown_any n h p 48 (by omega) _).mono ?_
    rintro e w6 ⟨rfl, hb6⟩
    try go_wp2_with fail
    refine hK.out _ _ (hHeld.below hb6 hHeld.lt) (fun hH => ?_)
    clear hK K hHeld
    have hHeld := hH
    clear hH
    have t1 := u1.below hb6 u1.lt
    have tb := ub.trans (hb6.mono ub.size)
    refine wpAnyH_ready (rs := [4]) (by kernel_rfl) (by simp) (AllReadyH.cons rfl (fun K hK => ?_) AllReadyH.nil)
    rw [if_pos (by rfl)]
    refine wp_store_partS 23 _ _ rfl rfl (w.heap.size + 1) 0 (bv (goDown step p 48 0 h)) 32 rfl rfl 23 _ 32 t1 (by omega) info26 (fun _ _ => rfl) (bv (goDown step p 48 0 h)) (fun i hi => by unfold splice; rw [if_pos (by omega), Nat.sub_zero]) ?_
    refine hK.out _ _ (hHeld.row_other _ _ (by omega)) (fun hH => ?_)
    clear hK K hHeld
    have hHeld := hH
    clear hH
    refine takeH 5 (some 5) (.int .i64 0) rfl rfl (by kernel_rfl) (by kernel_rfl) (by kernel_rfl) (fun _ _ _ h => h) (by rfl) (fun w hw => by first | rfl | (go_simp; done) | (go_simp; rfl)) hHeld ?_
    simp only [Act.put, List.setIfInBounds_toArray, List.set_cons_zero, List.set_cons_succ]
    refine ⟨by kernel_rfl, ?_⟩
    refine NoPanic.normal ?_
    go_wp2
    exact bodyPost_ret (resCT _ (w.heap.size + 1) _ _ 0 4 5 (t1.row _ (bv (goDown step p 48 0 h)) rfl) rfl rfl _ rfl) rfl ⟨rfl, below_setRow tb (by omega) _⟩
def deriveA (h : Nat → UInt8) (a c : Int) : (Nat → UInt8) × Int :=
  if isN a = true ∧ isN c = true then (if place a.toNat / 2 ^ lvl (place a.toNat) 48 = place c.toNat / 2 ^ lvl (place a.toNat) 48 then (deriveOf step h a.toNat c.toNat, 0) else (fun _ => 0, 5)) else (fun _ => 0, 90)
end Go.Proofs.YtmmcoedgoekhgaaGreatDoor
/-
  What the row's list gives: the two tables; a hash among the arguments.
-/
namespace Go.Proofs.YtmmcoedgoekhgaaGreatDoor
open Go.ChangeShapes Go.WideShapes Go.ChangeAt Go.RowKit S
set_option maxRecDepth 20000
/-- The numbers as they are. -/
def num : Num := ⟨fun b => (b.toNat : Int), fun _ => rfl⟩
theorem gRounds : Tryz.prog.globalNamed "escrow/hash.rounds" = some 1 := by kernel_rfl
theorem gFirst : Tryz.prog.globalNamed "escrow/hash.first" = some 0 := by kernel_rfl
theorem tRounds : (Tryz.prog.globals[1]?).map (·.type) = some 229 := by kernel_rfl
theorem tFirst : (Tryz.prog.globals[0]?).map (·.type) = some 195 := by kernel_rfl
theorem cells59 : Tryz.prog.cellsOf 229 = 64 := by kernel_rfl
theorem cells43 : Tryz.prog.cellsOf 195 = 8 := by kernel_rfl
theorem cells42 : Tryz.prog.cellsOf 194 = 1 := by kernel_rfl
theorem cells5 : Tryz.prog.cellsOf 5 = 1 := by kernel_rfl
theorem cells26 : Tryz.prog.cellsOf 23 = 32 := by kernel_rfl
def kInts : List Int := Ks.map fun b => (b.toNat : Int)
def fInts : List Int := Fs.map fun b => (b.toNat : Int)
theorem laid_glob {W : World} (h : laidMetH Tryz.prog Rows.danceRawRow.laid W) (h2 : 2 ≤ W.heap.size) : Glob num W := by
  have h' : laidMet Tryz.prog Rows.danceRawRow.laid W := h
  obtain ⟨ps, ⟨g0, t0, cs0, f0, p0, q0, hg0, ht0, hv0, hd0, ⟨g1, t1, cs1, f1, p1, q1, hg1, ht1, hv1, hd1, _, _⟩, _⟩, _, _⟩ := h'
  obtain rfl := Option.some.inj (gRounds.symm.trans hg0)
  obtain rfl := Option.some.inj (gFirst.symm.trans hg1)
  obtain rfl := Option.some.inj (tRounds.symm.trans ht0)
  obtain rfl := Option.some.inj (tFirst.symm.trans ht1)
  have e0 := Lib.cells_of_tab Tryz.underlying229 Tryz.underlying194 cells42 cells59 (zs := kInts) hd0
  have e1 := Lib.cells_of_tab Tryz.underlying195 Tryz.underlying194 cells42 cells43 (zs := fInts) hd1
  refine ⟨fun i hi => ?_, fun i hi => ?_, h2⟩
  · have hc := World.var?_cell hg0 hv0 i
    rw [hc]
    have hg : cs0[i]? = cs0.toList[i]? := by rw [Array.getElem?_toList]
    rw [hg, e0]
    unfold kInts K wv num
    have hl : i < Ks.length := hi
    rw [List.getElem?_map, List.getElem?_map, List.getElem?_eq_getElem hl]
    show some (Value.int .u32 ((Ks[i].toNat : Nat) : Int)) = some (.int .u32 (((Ks.getD i 0#32).toNat : Nat) : Int))
    rw [List.getD_eq_getElem?_getD, List.getElem?_eq_getElem hl]
    rfl
  · have hc := World.var?_cell hg1 hv1 i
    rw [hc]
    have hg : cs1[i]? = cs1.toList[i]? := by rw [Array.getElem?_toList]
    rw [hg, e1]
    unfold fInts first wv num
    have hl : i < Fs.length := hi
    rw [List.getElem?_map, List.getElem?_map, List.getElem?_eq_getElem hl]
    show some (Value.int .u32 ((Fs[i].toNat : Nat) : Int)) = some (.int .u32 (((Fs.getD i 0#32).toNat : Nat) : Int))
    rw [List.getD_eq_getElem?_getD, List.getElem?_eq_getElem hl]
    rfl
/-- A world in which the tables stand has two blocks. -/
theorem laid_two {W : World} (h : laidMetH Tryz.prog Rows.danceRawRow.laid W) : 2 ≤ W.heap.size := by
  have h' : laidMet Tryz.prog Rows.danceRawRow.laid W := h
  obtain ⟨ps, ⟨g0, t0, cs0, f0, p0, q0, hg0, ht0, hv0, hd0, _, _⟩, _, _⟩ := h'
  obtain rfl := Option.some.inj (gRounds.symm.trans hg0)
  obtain rfl := Option.some.inj (tRounds.symm.trans ht0)
  have e0 := Lib.cells_of_tab Tryz.underlying229 Tryz.underlying194 cells42 cells59 (zs := kInts) hd0
  have hc := World.var?_cell hg0 hv0 0
  have hg : cs0[0]? = cs0.toList[0]? := by rw [Array.getElem?_toList]
  rw [hg, e0] at hc
  have := block_lt_of_cell hc
  simp only at this
  omega
end Go.Proofs.YtmmcoedgoekhgaaGreatDoor
/-
  A world for the rows' witnesses: the two tables laid.
-/
namespace Go.Proofs.YtmmcoedgoekhgaaGreatDoor
set_option maxRecDepth 20000
open Go.RowKit S
def layCells (cs : Array Value) (o : Obj) : Obj := match o with
  | .cells _ t frozen => .cells cs t frozen
  | o => o
def laidWorldOf (w : World) : World :=
  { w with heap := (w.heap.modify 0 (layCells (tabv (wv num first) 8))).modify 1 (layCells (tabv (wv num K) 64)) }
end Go.Proofs.YtmmcoedgoekhgaaGreatDoor
/-
  The examples that every statement of layer 9 asks first (printed by gen_head.py).
-/
namespace Go.Proofs.YtmmcoedgoekhgaaGreatDoor
set_option maxRecDepth 20000
open S
theorem hd8 {h : Nat → UInt8} (e : listOf h = [58, 153, 61, 55, 180, 188, 6, 47, 145, 113, 73, 155, 148, 184, 86, 228, 78, 53, 240, 158, 26, 58, 160, 131, 32, 220, 137, 184, 242, 78, 215, 226]) : listOf (step 8 h) = [92, 8, 163, 158, 201, 60, 170, 177, 152, 142, 118, 160, 13, 221, 139, 199, 109, 138, 32, 249, 105, 249, 86, 132, 16, 230, 129, 79, 4, 90, 252, 97] := by
  rw [step_list, e]; decide +kernel
theorem hd7 {h : Nat → UInt8} (e : listOf h = [92, 8, 163, 158, 201, 60, 170, 177, 152, 142, 118, 160, 13, 221, 139, 199, 109, 138, 32, 249, 105, 249, 86, 132, 16, 230, 129, 79, 4, 90, 252, 97]) : listOf (step 7 h) = [107, 131, 38, 146, 238, 90, 76, 152, 63, 55, 248, 17, 163, 162, 211, 57, 110, 152, 21, 234, 198, 48, 222, 44, 203, 148, 178, 63, 19, 179, 120, 144] := by
  rw [step_list, e]; decide +kernel
theorem hd6 {h : Nat → UInt8} (e : listOf h = [107, 131, 38, 146, 238, 90, 76, 152, 63, 55, 248, 17, 163, 162, 211, 57, 110, 152, 21, 234, 198, 48, 222, 44, 203, 148, 178, 63, 19, 179, 120, 144]) : listOf (step 6 h) = [91, 176, 76, 159, 18, 39, 232, 107, 157, 55, 1, 186, 169, 55, 15, 83, 188, 187, 142, 245, 208, 22, 170, 249, 227, 102, 172, 227, 151, 42, 220, 153] := by
  rw [step_list, e]; decide +kernel
theorem hd5 {h : Nat → UInt8} (e : listOf h = [91, 176, 76, 159, 18, 39, 232, 107, 157, 55, 1, 186, 169, 55, 15, 83, 188, 187, 142, 245, 208, 22, 170, 249, 227, 102, 172, 227, 151, 42, 220, 153]) : listOf (step 5 h) = [111, 164, 149, 127, 70, 204, 181, 54, 94, 128, 5, 232, 217, 51, 60, 111, 140, 224, 12, 166, 40, 223, 96, 154, 176, 19, 58, 94, 108, 63, 60, 48] := by
  rw [step_list, e]; decide +kernel
theorem hd4 {h : Nat → UInt8} (e : listOf h = [111, 164, 149, 127, 70, 204, 181, 54, 94, 128, 5, 232, 217, 51, 60, 111, 140, 224, 12, 166, 40, 223, 96, 154, 176, 19, 58, 94, 108, 63, 60, 48]) : listOf (step 4 h) = [230, 221, 56, 71, 155, 133, 161, 119, 0, 130, 248, 205, 148, 239, 63, 66, 20, 84, 67, 27, 119, 161, 166, 119, 49, 30, 113, 179, 173, 239, 140, 115] := by
  rw [step_list, e]; decide +kernel
theorem hd3 {h : Nat → UInt8} (e : listOf h = [230, 221, 56, 71, 155, 133, 161, 119, 0, 130, 248, 205, 148, 239, 63, 66, 20, 84, 67, 27, 119, 161, 166, 119, 49, 30, 113, 179, 173, 239, 140, 115]) : listOf (step 3 h) = [167, 239, 188, 97, 170, 196, 109, 52, 247, 119, 120, 186, 194, 44, 138, 32, 198, 164, 108, 164, 96, 173, 220, 73, 0, 155, 218, 135, 94, 200, 143, 164] := by
  rw [step_list, e]; decide +kernel
theorem hd2 {h : Nat → UInt8} (e : listOf h = [167, 239, 188, 97, 170, 196, 109, 52, 247, 119, 120, 186, 194, 44, 138, 32, 198, 164, 108, 164, 96, 173, 220, 73, 0, 155, 218, 135, 94, 200, 143, 164]) : listOf (step 2 h) = [186, 101, 215, 176, 239, 85, 163, 186, 48, 13, 78, 135, 175, 41, 134, 143, 57, 79, 143, 19, 141, 120, 167, 1, 22, 105, 199, 155, 55, 185, 54, 244] := by
  rw [step_list, e]; decide +kernel
theorem hd1 {h : Nat → UInt8} (e : listOf h = [186, 101, 215, 176, 239, 85, 163, 186, 48, 13, 78, 135, 175, 41, 134, 143, 57, 79, 143, 19, 141, 120, 167, 1, 22, 105, 199, 155, 55, 185, 54, 244]) : listOf (step 1 h) = [221, 220, 58, 141, 20, 253, 223, 43, 104, 250, 140, 127, 186, 210, 116, 130, 116, 147, 116, 121, 221, 15, 137, 48, 213, 235, 180, 171, 107, 216, 102, 163] := by
  rw [step_list, e]; decide +kernel
theorem hd0 {h : Nat → UInt8} (e : listOf h = [221, 220, 58, 141, 20, 253, 223, 43, 104, 250, 140, 127, 186, 210, 116, 130, 116, 147, 116, 121, 221, 15, 137, 48, 213, 235, 180, 171, 107, 216, 102, 163]) : listOf (step 0 h) = [2, 164, 12, 133, 182, 242, 141, 160, 141, 253, 190, 9, 38, 197, 63, 171, 45, 230, 210, 140, 16, 48, 31, 143, 124, 64, 115, 213, 228, 46, 49, 72] := by
  rw [step_list, e]; decide +kernel
end Go.Proofs.YtmmcoedgoekhgaaGreatDoor
/-
  The statements' own helpers: full, begins, number, hangs; what the four calls of the layer must answer.
-/
namespace Go.Proofs.YtmmcoedgoekhgaaGreatDoor
set_option maxRecDepth 20000
open Go.RowKit S
set_option linter.unusedVariables false
theorem wpList_load_want {P : Program} {ops : Array Oper} {rest : List Oper} {o : Oper} {a : Act} {w : World} {Q : Exit → Act → World → Prop} (hw : Region.wanted o (yielded ops a.tmps) = true) (ty : TypeId) (x : Operand) (ho : o.op = .load ty x)
    (g of : Nat) (hx : a.eval x = .pointer (some ⟨g, of, none⟩)) (t : TypeId) (f : Nat → Value) (M m : Nat) (d : TypeDesc) (hg : Has w g t f M) (hm : of + m ≤ M)
    (hu : P.underlying ty = some d) (hd : (match d with | .struct _ | .array _ _ => true | _ => false) = true) (hi : (P.info? ty).map (·.size) = some m)
    (f' : Nat → Value) (hf : ∀ i, i < m → f (of + i) = f' i)
    (h : wpList P ops Q rest (a.put o.dst (.agg (tabv f' m))) w) : wpList P ops Q (o :: rest) a w :=
  wpList_step fun K hK => by rw [if_pos hw]; exact wp_load_part ty x ho g of hx t f M m d hg hm hu hd hi (hK _ _ (by rw [tabv_congr _ f' m hf]; exact h))
/-- What the layer's four calls answer. -/
structure SeedOk (n : Num) : Prop where
  secret : ∀ (h : Nat → UInt8) (x : Int) (w : World), Glob n w → Calls Tryz.prog 106 #[.agg (tabv (bv h) 32), .int .i64 x] w fun e w' => e = .returned (.tuple #[.agg (tabv (bv (secretA h x).1) 32), .int .i64 (secretA h x).2]) ∧ Below w.heap.size w w'
  point : ∀ (h : Nat → UInt8) (w : World), Glob n w → Calls Tryz.prog 54 #[.agg (tabv (bv h) 32)] w fun e w' => e = .returned (.agg (tabv (bv (sha (listOf h))) 32)) ∧ Below w.heap.size w w'
  level : ∀ (x : Int) (w : World), Calls Tryz.prog 108 #[.int .i64 x] w fun e w' => e = .returned (.tuple #[.int .i64 (levelA x).1, .int .i64 (levelA x).2]) ∧ Below w.heap.size w w'
  derive : ∀ (h : Nat → UInt8) (x y : Int) (w : World), Glob n w → Calls Tryz.prog 182 #[.agg (tabv (bv h) 32), .int .i64 x, .int .i64 y] w fun e w' => e = .returned (.tuple #[.agg (tabv (bv (deriveA h x y).1) 32), .int .i64 (deriveA h x y).2]) ∧ Below w.heap.size w w'
theorem Glob.up {n : Num} {w w' : World} (h : Glob n w) (hb : Below w.heap.size w w') : Glob n w' := h.below hb h.2.2
end Go.Proofs.YtmmcoedgoekhgaaGreatDoor
/-
  hangs: P9.4's words by numbers alone.
-/
namespace Go.Proofs.YtmmcoedgoekhgaaGreatDoor
set_option maxRecDepth 20000
open Go.RowKit S
set_option linter.unusedVariables false
end Go.Proofs.YtmmcoedgoekhgaaGreatDoor
/-
  head: the examples that every statement asks first.
-/
namespace Go.Proofs.YtmmcoedgoekhgaaGreatDoor
set_option maxRecDepth 20000
open Go.RowKit S
set_option linter.unusedVariables false
end Go.Proofs.YtmmcoedgoekhgaaGreatDoor
/-
  Numbers that hang on one another: what the statements of layer 9 lean on.
-/
namespace Go.Proofs.YtmmcoedgoekhgaaGreatDoor
set_option maxRecDepth 20000
open Go.RowKit S
set_option linter.unusedVariables false
theorem Hangs.trans {p q r : Nat} (h : Hangs p q) (hl : lvl q 48 ≤ lvl p 48) (k : Hangs q r) : Hangs p r :=
  fun i h1 h2 => (h i h1 h2).trans (k i (by omega) h2)
end Go.Proofs.YtmmcoedgoekhgaaGreatDoor
