/-
  Hashes: what the writer's and the reader's Hash ask of the type.
-/
import Derived.Test.YtfohdolhobooiaaWords
import Derived.Test.YtfohdolhobooiaaCurReadMath
import Derived.Deep.RegionHeld3
import Derived.Laws.ResultCell
namespace Go.Proofs.Ytfohdolhobooiaa.Cu
open Go.RowKit S
theorem takeH {P : Program} {ops : Array Oper} {Q : Exit → Act → World → Prop} {md : Region.Mode} {S : World → Prop} (i : Nat) (d : Option Tmp) (v : Value) {oi : Oper} {fuel : Nat} {listed : Array Bool} {a : Act} {w : World} (hi : ops[i]? = some oi) (hd : oi.dst = d)
    (hs : Region.noSelect ops = true) (hf : Region.free md ops listed i = true) (hr : (Region.ready md ops listed).contains i = true)
    (hQ : ∀ c a w, Q (.panic c) (a.put oi.dst v) w → Q (.panic c) a w) (hw : Region.wanted oi (yielded ops a.tmps) = true) (hy : ∀ w, S w → (execOp a.eval oi).run P w = .ok (.value v) w) (hS : S w)
    (h : wpAnyH P md ops Q S fuel (listed.setIfInBounds i true) (a.put d v) w) : wpAnyH P md ops Q S (fuel + 1) listed a w :=
  wpAnyH_take hi hs hf hr hQ (.inl ⟨hw, hy⟩) hS (by rw [hd]; exact h)
theorem info54 : (Try.prog.info? 23).map (·.size) = some 32 := by kernel_rfl
theorem len54 : Try.prog.arrayLen 23 = 32 := by kernel_rfl
theorem el54 : Try.prog.elem 23 = 5 := by kernel_rfl
theorem und54 : Try.prog.underlying 23 = some (.array (Try.prog.arrayLen 23) (Try.prog.elem 23)) := by kernel_rfl
set_option maxRecDepth 20000 in
theorem sl54 (w : World) (g o : Nat) : (Instr.sliceAt 23 (.pointer (some ⟨g, o, none⟩)) none none none).run Try.prog w = .ok (.slice (some ⟨g, o, none⟩) 32 32) w := by
  rw [run_sliceAt_array_all w 23 _ und54, el54, size5, len54]
  simp only [Result.andThen_ok, slicedAt, Nat.mul_one]
  congr 3
end Go.Proofs.Ytfohdolhobooiaa.Cu
