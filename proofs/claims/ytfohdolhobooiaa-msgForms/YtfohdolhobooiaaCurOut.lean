/-
  The writer: Out.
-/
import Derived.Test.YtfohdolhobooiaaCurWriter2
namespace Go.Proofs.Ytfohdolhobooiaa.Cu
open Go.RowKit
theorem Bytes.cells {w : World} {B g n cap : Nat} {l : List UInt8} (h : Bytes w B (.slice (some ⟨g, 0, none⟩) n cap) l) (i : Nat) (hi : i < l.length) : w.cell? ⟨g, i, none⟩ = some (byteV (byteAt l i)) := by
  rcases h.2 with ⟨h1, _⟩ | ⟨g', cap', cur, h1, hb, hg, hnc, hcm, hcs, htake⟩
  · cases h1
  · simp only [Value.slice.injEq, Option.some.injEq, Addr.mk.injEq, and_true] at h1
    obtain ⟨rfl, rfl, rfl⟩ := h1
    rw [cell_of_row w g i cur 5 (0, 0) hg]
    rw [Nat.mul_one] at htake
    have e : (cur.toList.take l.length)[i]? = (l.map byteV)[i]? := by rw [htake]
    rw [List.getElem?_take_of_lt hi, List.getElem?_map, List.getElem?_eq_getElem hi, Array.getElem?_toList] at e
    rw [e]
    unfold byteAt
    rw [List.getD_eq_getElem?_getD, List.getElem?_eq_getElem hi]
    rfl
theorem conv_nil (w : World) : (convert 44 9 (.slice none 0 0)).run Try.prog w = .ok (.string ⟨#[]⟩) w := by
  have hd : (convert 44 9 (.slice none 0 0)).run Try.prog w = .ok (.string ⟨#[]⟩) w := by
    simp [convert, run_underlying Try.underlying44, run_underlying Try.underlying9, run_underlying Try.underlying5, Conv.bytesToString, loadCells]
    try rfl
  exact hd
theorem Bytes.conv {w : World} {B : Nat} {v : Value} {l : List UInt8} (h : Bytes w B v l) : (convert 44 9 v).run Try.prog w = .ok (.string ⟨l.toArray⟩) w := by
  rcases h.2 with ⟨rfl, hl⟩ | ⟨g, cap, cur, rfl, hb, hg, _⟩
  · have e : l = [] := List.length_eq_zero_iff.1 hl
    subst e
    exact conv_nil w
  · have hr := run_convert_bytes_arg w 44 5 Try.underlying44 Try.underlying5 g 0 l.length cap (l.map fun c => (c.toNat : Int)) (by simp) (fun i hi => by
      rw [Nat.zero_add, h.cells i hi]
      unfold byteAt byteV
      rw [List.getD_eq_getElem?_getD, List.getElem?_eq_getElem hi]
      simp [hi]) 9 Try.underlying9
    have e : strOfNums (l.map fun c => (c.toNat : Int)) = ⟨l.toArray⟩ := by
      simp only [strOfNums, List.map_map, Function.comp_def, Int.toNat_natCast]
      simp
    rw [e] at hr
    exact hr
theorem below_drewN {B : Nat} {w w' : World} (h : Below B w w') (n : Nat) : Below B w (w'.drewN n) := ⟨h.os, h.tape, h.output, h.size, h.block⟩
def outS (s : Option (List UInt8)) : ByteArray := ⟨(s.getD []).toArray⟩
def outE (s : Option (List UInt8)) : Int := if s.isSome then 0 else 3
set_option maxHeartbeats 1000000 in
theorem wOut (p : Nat) (v : Value) (s : Option (List UInt8)) (w : World) (h : CW w p v s) :
    Calls Try.prog 32 #[.pointer (some ⟨p, 0, none⟩)] w fun e w' => e = .returned (.tuple #[.string (outS s), .int .i64 (outE s)]) ∧ Below w.heap.size w w' := by
  have hT : Two 84 w p v (outE s) := by cases s with | none => exact h.1 | some l => exact h.1
  have hc : ∀ m, (convert 44 9 v).run Try.prog (w.drewN m) = .ok (.string (outS s)) (w.drewN m) := fun m => by
    cases s with
    | none => rw [h.2]; exact conv_nil _
    | some l => exact Bytes.conv (w := w.drewN m) h.2
  have c0 := hT.c0
  have c1 := hT.c1
  generalize outS s = S at hc ⊢
  generalize outE s = E at c1 ⊢
  clear hT h
  go_enter Try.func32, Try.ntmps32
  go_wp2
  go_quiet (fail)
  go_wp2
  go_ret2
  exact ⟨rfl, below_drewN (Below.refl _ _) nq⟩
end Go.Proofs.Ytfohdolhobooiaa.Cu
