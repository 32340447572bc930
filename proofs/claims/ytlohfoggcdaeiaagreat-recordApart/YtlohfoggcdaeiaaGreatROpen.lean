import Derived.Test.YtlohfoggcdaeiaaGreatRApart
import Derived.Test.YtlohfoggcdaeiaaGreatRows
import Derived.Test.YtlohfoggcdaeiaaGreatROpenA
import Derived.HandedShaped
/-
  RecordApart: the walk as the row wants it.
-/
namespace Go.Proofs.YtlohfoggcdaeiaaGreat
open Go.RowKit S
theorem apart_row [Inhabited S.Tbl] (x0 : Sl) (lo : List Upd) (x1 : Sl) (lp : List Upd) (x2 : Sl) (ls : List Slot) (co : Int) (w : World) (h0 : lo.length = x0.n) (u0 : Upds w x0.ad lo) (c0 : x0.n ≤ x0.c) (z0 : x0.c * 72 ≤ 140737488351232) (h1 : lp.length = x1.n) (u1 : Upds w x1.ad lp) (c1 : x1.n ≤ x1.c) (z1 : x1.c * 72 ≤ 140737488351232) (h3 : ls.length = x2.n) (u2 : Slots w x2.ad ls) (c2 : x2.n ≤ x2.c) (z2 : x2.c * 48 ≤ 140737488351232) (hG : Glob num w) : Calls Tryz.prog 5 #[x0.v, x1.v, x2.v, .int .i64 co] w fun e w' => e = .returned (.bool true) ∧ Below w.heap.size w w' :=
  apart_walk x0 x1 x2 lo lp ls co h0 h1 h3 (by omega) (by omega) (by omega) w u0 u1 u2 hG
end Go.Proofs.YtlohfoggcdaeiaaGreat
/-
  The two tables of hash, whatever they hold: out of the world's shape.
-/
namespace Go.Proofs.YtlohfoggcdaeiaaGreat
open Go.RowKit S
set_option linter.unusedVariables false
set_option linter.unusedSimpArgs false
theorem u32_has {n : Int} (h : IntKind.u32.has n) : 0 ≤ n ∧ n < 4294967296 := by
  simp [IntKind.has, IntKind.min, IntKind.max, IntKind.signed, IntKind.bits] at h
  omega
set_option maxRecDepth 100000 in
theorem table_of {W : World} {g m : Nat} {t : TypeId} (ct : Tryz.prog.cellTypes Tryz.prog.depth t = some (List.replicate m 158)) (hb : Tryz.prog.buildable t = true) {cs : Array Value} (hg : W.heap[g]? = some (.cells cs t)) (hs : cs.size = m) (h : Tryz.prog.buildable t = true → Row.ok Tryz.prog W .any 0 t cs) :
    ∃ f : Nat → BitVec 32, ∀ i, i < m → W.cell? ⟨g, i, none⟩ = some (wv num f i) := by
  refine ⟨fun i => match cs[i]? with | some (.int _ n) => BitVec.ofInt 32 n | _ => 0#32, fun i hi => ?_⟩
  obtain ⟨ts, h1, _, h3⟩ := h hb
  rw [ct] at h1
  cases h1
  have hci : cs[i]? = some cs[i] := Array.getElem?_eq_getElem (by omega)
  obtain ⟨u, hu, hok⟩ := h3 i cs[i] hci
  have hu2 : u = 158 := by
    rw [List.length_replicate, Nat.mod_eq_of_lt hi, List.getElem?_replicate, if_pos hi] at hu
    exact (Option.some.inj hu).symm
  subst hu2
  unfold Cell.ok at hok
  rw [Tryz.underlying158] at hok
  rw [cell_of_row W g _ cs _ (0, 0) hg, hci]
  generalize cs[i] = v at hok hci
  unfold wv
  cases v with
  | int k n =>
    obtain ⟨rfl, hn⟩ := hok
    have hr := u32_has hn
    refine congrArg some ?_
    simp only [hci]
    show Value.int .u32 n = .int .u32 (((BitVec.ofInt 32 n).toNat : Nat) : Int)
    refine congrArg (Value.int .u32) ?_
    rw [BitVec.toNat_ofInt]
    omega
  | _ => exact hok.elim
set_option maxRecDepth 100000 in
theorem glob_shaped [Inhabited S.Tbl] {W : World} (hsh : W.ShapedOpen Tryz.prog) : ∃ T : Tbl, @Glob ⟨T⟩ num W := by
  have z0 : ((begin Tryz.prog (fun _ _ => 0) default).world.heap[0]?).bind Obj.row? = some (tabv (fun _ => .int .u32 0) 8, 159) := by kernel_rfl
  have z1 : ((begin Tryz.prog (fun _ _ => 0) default).world.heap[1]?).bind Obj.row? = some (tabv (fun _ => .int .u32 0) 64, 163) := by kernel_rfl
  have hg : Tryz.prog.globals.size = 2 := by kernel_rfl
  obtain ⟨c0, e0, s0, k0⟩ := hsh.1 0 _ _ (by rw [hg]; omega) z0
  obtain ⟨c1, e1, s1, k1⟩ := hsh.1 1 _ _ (by rw [hg]; omega) z1
  rw [tabv_size] at s0 s1
  obtain ⟨f, hf⟩ := table_of (m := 8) (by kernel_rfl) (by kernel_rfl) e0 s0 k0
  obtain ⟨k, hk⟩ := table_of (m := 64) (by kernel_rfl) (by kernel_rfl) e1 s1 k1
  have h2 : 2 ≤ W.heap.size := by
    rcases Nat.lt_or_ge 1 W.heap.size with h | h
    · exact h
    · rw [Array.getElem?_eq_none h] at e1; cases e1
  exact ⟨⟨k, f⟩, hk, hf, h2⟩
end Go.Proofs.YtlohfoggcdaeiaaGreat
