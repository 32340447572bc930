/-
  RECORDS: which are valid, their bytes.
-/
import Derived.Test.YtlohfoggcdaeiaaGreatRBase
namespace Go.Proofs.YtlohfoggcdaeiaaGreat
open Go.RowKit S
set_option linter.unusedVariables false
set_option linter.unusedSimpArgs false
open Cu (nb be hl ofL RS takeS takeA hOf nil8 num doneS)
def idxB (n : Int) : Bool := decide (0 ≤ n) && decide (n ≤ 281474976710655)
def cntB (n : Int) : Bool := decide (0 ≤ n) && decide (n ≤ 2048)
def codB (n : Int) : Bool := decide (1 ≤ n) && decide (n ≤ 65535)
theorem idxB_iff (n : Int) : idxB n = true ↔ 0 ≤ n ∧ n ≤ 281474976710655 := by unfold idxB; simp
theorem cntB_iff (n : Int) : cntB n = true ↔ 0 ≤ n ∧ n ≤ 2048 := by unfold cntB; simp
theorem codB_iff (n : Int) : codB n = true ↔ 1 ≤ n ∧ n ≤ 65535 := by unfold codB; simp
def nilS : Sl := ⟨none, 0, 0⟩
/-- What is left of a record when the fields of its kind are taken out. -/
def strip (r : Rc) : Rc :=
  if r.kind = 1 then ⟨r.kind, Upd.zero, r.upds, r.idx, r.co, r.cp, r.sig, r.sec, r.pt, r.code⟩
  else if r.kind = 2 then ⟨r.kind, r.upd, r.upds, 0, 0, 0, r.sig, r.sec, r.pt, r.code⟩
  else if r.kind = 3 then ⟨r.kind, r.upd, nilS, 0, r.co, r.cp, z32, r.sec, r.pt, r.code⟩
  else if r.kind = 4 then ⟨r.kind, r.upd, r.upds, 0, r.co, r.cp, r.sig, z32, z32, r.code⟩
  else if r.kind = 5 then ⟨r.kind, r.upd, r.upds, r.idx, r.co, r.cp, r.sig, r.sec, r.pt, 0⟩
  else ⟨r.kind, r.upd, r.upds, 0, r.co, r.cp, r.sig, r.sec, r.pt, r.code⟩
def bareB (r : Rc) : Bool := eqU r.upd Upd.zero && (((r.upds.n : Int) == 0) && ((r.idx == 0) && (((r.co == 0) && (r.cp == 0)) && (eqH r.sig z32 && (eqH r.sec z32 && (eqH r.pt z32 && (r.code == 0)))))))
def ownV (r : Rc) (l : List Upd) : Bool :=
  if r.kind = 1 then validB r.upd
  else if r.kind = 2 then idxB r.idx && (cntB r.co && cntB r.cp)
  else if r.kind = 3 then idxB r.idx && (decide (r.upds.n ≤ 512) && l.all validB)
  else if r.kind = 4 then idxB r.idx
  else if r.kind = 5 then codB r.code
  else idxB r.idx
def isRec (k : Int) : Bool := decide (1 ≤ k) && decide (k ≤ 6)
def validR (r : Rc) (l : List Upd) : Bool := isRec r.kind && (bareB (strip r) && ownV r l)
/-- A record as its kind's own value. -/
def chV (r : Rc) : Value :=
  if r.kind = 1 then .iface 99 (.agg (tabv r.upd.v 36))
  else if r.kind = 2 then .iface 101 (.agg (tabv (Sg.v ⟨r.idx, r.co, r.cp⟩) 3))
  else if r.kind = 3 then .iface 103 (.agg (tabv (Cm.v ⟨r.idx, r.upds, r.sig⟩) 34))
  else if r.kind = 4 then .iface 105 (.agg (tabv (Rv.v ⟨r.idx, r.sec, r.pt⟩) 65))
  else if r.kind = 5 then .iface 107 (.agg #[.int .i64 r.code])
  else if r.kind = 6 then .iface 109 (.agg #[.int .i64 r.idx])
  else .nilIface
end Go.Proofs.YtlohfoggcdaeiaaGreat
