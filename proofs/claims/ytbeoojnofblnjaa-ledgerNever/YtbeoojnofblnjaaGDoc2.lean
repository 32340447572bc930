import Derived.Test.YtbeoojnofblnjaaGOpen
/-
  The document's sums (Units times 2^60 and a rest), its counts and its first removals.
-/
namespace Go.Proofs.Ytbeoojnofblnjaa
open Go.RowKit S
set_option linter.unusedVariables false
set_option linter.unusedSimpArgs false
-- left out in this seat: infoW
theorem oneW (X : Int) (i : Nat) : (totv X i).oneCell' = true := by unfold totv; split <;> rfl
section
variable {ops : Array Oper} {rest : List Oper} {o : Oper} {a : Act} {w : World} {Q : Exit → Act → World → Prop}
-- left out in this seat: wpList_storeW
end
-- left out in this seat: resW
theorem tot_eq {Y H L : Int} (e : Y = H * 1152921504606846976 + L) (h0 : 0 ≤ L) (h1 : L < 1152921504606846976) : tabv (totv Y) 2 = #[.int .i64 H, .int .i64 L] := by
  have e1 : Y / 1152921504606846976 = H := by omega
  have e2 : Y % 1152921504606846976 = L := by omega
  unfold totv
  rw [e1, e2]
  rfl
theorem tot_v (X : Int) : tabv (totv X) 2 = #[.int .i64 (X / 1152921504606846976), .int .i64 (X % 1152921504606846976)] := rfl
-- left out in this seat: builtW
-- left out in this seat: rplus_any
-- left out in this seat: rminus_any
-- left out in this seat: rcut_any
-- left out in this seat: rfirst_any
theorem rem_next {id : Int} {l : List Upd} {j : Nat} {x : Upd} (hx : l[j]? = some x) (h0 : (l.take j).find? (remP id) = none) (hp : remP id x = false) : (l.take (j + 1)).find? (remP id) = none := find_next hx h0 hp
-- left out in this seat: rremoved_any
end Go.Proofs.Ytbeoojnofblnjaa
/-
  The document's Spendable and Open (printed by gen_doc2.py).
-/
namespace Go.Proofs.Ytbeoojnofblnjaa
open Go.RowKit S
set_option linter.unusedVariables false
set_option linter.unusedSimpArgs false
-- left out in this seat: TW
-- left out in this seat: TW.below
-- left out in this seat: TW.at_
-- left out in this seat: TW.put
theorem addB_of {s : Upd} (h1 : (s.kind == 1) = true) (h2 : validB s = true) : addB s = true := by unfold addB; rw [h1, h2]; rfl
-- left out in this seat: builtW0
-- left out in this seat: rspend_any
-- left out in this seat: ropen_any
end Go.Proofs.Ytbeoojnofblnjaa
