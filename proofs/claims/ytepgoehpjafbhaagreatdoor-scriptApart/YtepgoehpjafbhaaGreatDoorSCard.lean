import Derived.Test.YtepgoehpjafbhaaGreatDoorRows
import Derived.Test.YtepgoehpjafbhaaGreatDoorSHm
import Derived.HandedShaped
import Derived.Shelf.Vars
import Derived.ProofKit
import Derived.OpenShut
import Derived.LaidLaws
import Derived.Lib.LaidTab
/-
  What of the library's variables is used, out of the world's shape: strconv's table holds whatever it holds.
-/
namespace Go.Proofs.YtepgoehpjafbhaaGreatDoor
open Go.RowKit S
set_option linter.unusedVariables false
set_option linter.unusedSimpArgs false
set_option maxRecDepth 100000 in
theorem tab_shaped {W : World} (hsh : W.ShapedOpen Tryz.prog) : ∃ T : Nat → Int, ∀ i, i < 20 → W.cell? ⟨3, i, none⟩ = some (.int .u64 (T i)) := by
  have hg : Tryz.prog.globals.size = 8 := by kernel_rfl
  have z0 : ((begin Tryz.prog (fun _ _ => 0) default).world.heap[3]?).bind Obj.row? = some (tabv (fun _ => .int .u64 0) 20, 177) := by kernel_rfl
  have ct : Tryz.prog.cellTypes Tryz.prog.depth 177 = some (List.replicate 20 126) := by kernel_rfl
  have hb : Tryz.prog.buildable 177 = true := by kernel_rfl
  obtain ⟨cs, e0, s0, k0⟩ := hsh.1 3 _ _ (by rw [hg]; omega) z0
  rw [tabv_size] at s0
  refine ⟨fun i => match cs[i]? with | some (.int _ n) => n | _ => 0, fun i hi => ?_⟩
  obtain ⟨ts, h1, _, h3⟩ := k0 hb
  rw [ct] at h1
  cases h1
  have hci : cs[i]? = some cs[i] := Array.getElem?_eq_getElem (by omega)
  obtain ⟨u, hu, hok⟩ := h3 i cs[i] hci
  have hu2 : u = 126 := by
    rw [List.length_replicate, Nat.mod_eq_of_lt hi, List.getElem?_replicate, if_pos hi] at hu
    exact (Option.some.inj hu).symm
  subst hu2
  unfold Cell.ok at hok
  rw [Tryz.underlying126] at hok
  rw [cell_of_row W _ _ cs _ (0, 0) e0, hci]
  generalize cs[i] = v at hok hci
  cases v with
  | int k n =>
    obtain ⟨rfl, hn⟩ := hok
    simp only [hci]
  | _ => exact hok.elim
set_option maxRecDepth 100000 in
theorem env_shaped {W : World} (hsh : W.ShapedOpen Tryz.prog) : ∃ T : Nat → Int, EnvW False W.heap.size (fmtT T) W := by
  have hg : Tryz.prog.globals.size = 8 := by kernel_rfl
  obtain ⟨m, hm⟩ := cell_of_shapedOpen_int (g := 0) (t := 3) (zero := #[.int .i64 0]) (k := .i64) hsh (by rw [hg]; omega) (by kernel_rfl) rfl (by kernel_rfl) (by kernel_rfl) Tryz.underlying3
  obtain ⟨T, hT⟩ := tab_shaped hsh
  have hsz : 8 ≤ W.heap.size := by
    have h1 : 8 < (begin Tryz.prog (fun _ _ => 0) default).world.heap.size := by decide +kernel
    obtain ⟨o, _, h2, _⟩ := hsh.2 8 (by rw [hg]; exact Nat.le_refl _) h1
    rcases Nat.lt_or_ge 8 W.heap.size with h | h
    · exact Nat.le_of_lt h
    · rw [Array.getElem?_eq_none h] at h2; cases h2
  have hF : TabAt Tryz.laysFormatInt_ren T W := fun i hi => hT i hi
  have hI : TabAt Tryz.laysItoa_ren T W := fun i hi => hT i hi
  exact ⟨T, ⟨⟨m, hm⟩, fun h => h.elim, fun h => h.elim, hsz, fun n h0 h1 w' k => fmtInt_any Tryz.laysFormatInt T n h0 h1 w' (hF.below k)⟩, fun n h0 h1 w' k => itoaT_any Tryz.laysItoa T n h0 h1 w' (hI.below k), fmtT_len T⟩
end Go.Proofs.YtepgoehpjafbhaaGreatDoor
/-
  A world for the rows' witnesses; the range of an argument.
-/
namespace Go.Proofs.YtepgoehpjafbhaaGreatDoor
open Go.ChangeShapes Go.WideShapes Go.ChangeAt Go.RowKit S
def lit1 : DataW Unit → List Value
  | .lit (.int k z) => [Value.int k z]
  | _ => []
def lit2 : DataW Unit → List Value
  | .agg l => l.flatMap lit1
  | d => lit1 d
def datumCells : DataW Unit → Array Value
  | .agg l => (l.flatMap lit2).toArray
  | _ => #[]
def layCells (cs : Array Value) (o : Obj) : Obj := match o with
  | .cells _ t frozen => .cells cs t frozen
  | o => o
def laidWorldOf (w : World) : World := { w with heap := (w.heap.modify 2 (layCells (datumCells Rows.laid_unicode_utf8_acceptRanges))).modify 1 (layCells (datumCells Rows.laid_unicode_utf8_first)) }
set_option maxRecDepth 100000 in
theorem laid_met (os : Os) (args : Array Value) : laidMet Tryz.prog Rows.scriptQuotesRow.laid ((laidWorldOf (World.holding Tryz.prog os ⟨#[], #[], []⟩)).forCall (fun _ _ => 0) ⟨#[], args, []⟩).memory :=
  laidMet_of_run' 20 (by kernel_rfl) (by kernel_rfl)
theorem i64_range {x : Int} (h : (Lit.int .i64 x).wf = true) : -9223372036854775808 ≤ x ∧ x ≤ 9223372036854775807 := by simpa [Lit.wf, IntKind.min, IntKind.max, IntKind.signed, IntKind.bits] using h
end Go.Proofs.YtepgoehpjafbhaaGreatDoor
