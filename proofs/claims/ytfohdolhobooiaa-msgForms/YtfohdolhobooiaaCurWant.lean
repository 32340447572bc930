/-
  Steps that may be guarded, with their answers given.
-/
import Derived.Test.YtfohdolhobooiaaCurReader2
namespace Go.Proofs.Ytfohdolhobooiaa.Cu
open Go.RowKit
section
variable {P : Program} {ops : Array Oper} {rest : List Oper} {o : Oper} {a : Act} {w : World} {Q : Exit → Act → World → Prop}
theorem wpW_bin (op : BinOp) (t : TypeId) (x y : Operand) (u : TypeId) (ho : o.op = .binOp op t x y u) (X Y r : Value) (hx : a.eval x = X) (hy : a.eval y = Y) (hw : Region.wanted o (yielded ops a.tmps) = true) (hq : eqGuard op t x y X Y = pure ()) (hr : (binOp op t X Y).run P w = .ok r w)
    (h : wpList P ops Q rest (a.put o.dst r) w) : wpList P ops Q (o :: rest) a w := by
  refine wpList_step fun K hK => ?_
  rw [if_pos hw]
  unfold Oper.wp execOp
  simp only [ho, hx, hy, hq, hr, Sem.run_bind, Sem.run_pure, Result.andThen_ok]
  exact hK _ _ h
theorem wpW_conv (s d : TypeId) (x : Operand) (ho : o.op = .convert s d x) (X r : Value) (hx : a.eval x = X) (hw : Region.wanted o (yielded ops a.tmps) = true) (hr : (convert s d X).run P w = .ok r w)
    (h : wpList P ops Q rest (a.put o.dst r) w) : wpList P ops Q (o :: rest) a w := by
  refine wpList_step fun K hK => ?_
  rw [if_pos hw]
  unfold Oper.wp execOp
  simp only [ho, hx, hr, Sem.run_bind, Sem.run_pure, Result.andThen_ok]
  exact hK _ _ h
theorem run_shl (t : TypeId) (k yk : IntKind) (X Y Z : Int) (m : Nat) (hY : Y = (m : Int)) (hm : m ≤ k.bits) (hZ : k.wrap (X * (2 : Int) ^ m) = Z) (w : World) : (binOp .shl t (.int k X) (.int yk Y)).run P w = .ok (.int k Z) w := by
  rw [binOp_shl, shift_shl_any k yk X Y (by omega), hY, Int.toNat_natCast, Nat.min_eq_left hm, hZ]; rfl
theorem run_shr (t : TypeId) (k yk : IntKind) (X Y Z : Int) (m : Nat) (hY : Y = (m : Int)) (hm : m ≤ k.bits) (hZ : X / (2 : Int) ^ m = Z) (w : World) : (binOp .shr t (.int k X) (.int yk Y)).run P w = .ok (.int k Z) w := by
  rw [binOp_shr, shift_shr_any k yk X Y (by omega), hY, Int.toNat_natCast, Nat.min_eq_left hm, hZ]; rfl
theorem run_or (t : TypeId) (k : IntKind) (X Y Z : Int) (hZ : bits .or k X Y = Z) (w : World) : (binOp .or t (.int k X) (.int k Y)).run P w = .ok (.int k Z) w := by
  rw [binOp_or, intBits_or, hZ]; rfl
theorem run_mul (t : TypeId) (k : IntKind) (X Y Z : Int) (hZ : k.wrap (X * Y) = Z) (w : World) : (binOp .mul t (.int k X) (.int k Y)).run P w = .ok (.int k Z) w := by
  rw [binOp_mul, ← hZ]; rfl
end
theorem run_conv (s d : TypeId) (k kd : IntKind) (X Z : Int) (hs : (Try.prog.underlying s).isSome = true) (hk : Try.prog.intKind d = kd) (hd : Try.prog.underlying d = some (.int (Try.prog.intKind d))) (hZ : kd.wrap X = Z) (w : World) : (convert s d (.int k X)).run Try.prog w = .ok (.int kd Z) w := by
  have h := run_convert_int (P := Try.prog) (w := w) s d k X hs hd
  rw [hk, hZ] at h
  exact h
/-- A slice of texts of the call's own. -/
def StrsO (w : World) (B : Nat) (v : Value) (ss : List ByteArray) : Prop := w.ownsRow B 9 1 v ss.length (ss.map Value.string)
theorem info9 : (Try.prog.info? 9).map (fun i => (i.zero, i.size, i.bytes)) = some (some (.string { data := #[] }), 1, 16) := by kernel_rfl
theorem StrsO.nil (w : World) (B : Nat) : StrsO w B (.slice none 0 0) [] := World.ownsRow_nil w B 9 1
theorem StrsO.block {w : World} {B : Nat} {v : Value} {l : List ByteArray} (h : StrsO w B v l) : ∀ k, v.ownBlock = some k → B ≤ k ∧ k < w.heap.size := fun k hk => World.ownsRow.lt h k hk
theorem StrsO.same {w w' : World} {B : Nat} {v : Value} {l : List ByteArray} (h : StrsO w B v l) (e : ∀ k, v.ownBlock = some k → w'.heap[k]? = w.heap[k]?) : StrsO w' B v l := by
  refine ⟨h.1, ?_⟩
  rcases h.2 with hn | ⟨g, cap, cur, rfl, hb, hgg, rest⟩
  · exact .inl hn
  · exact .inr ⟨g, cap, cur, rfl, hb, by rw [e g rfl]; exact hgg, rest⟩
theorem StrsO.below {w w' : World} {B : Nat} {v : Value} {l : List ByteArray} (h : StrsO w B v l) (hb : Below w.heap.size w w') : StrsO w' B v l :=
  h.same (fun k hk => hb.block k (h.block k hk).2)
theorem StrsO.cell {w : World} {B g n cap : Nat} {l : List ByteArray} (h : StrsO w B (.slice (some ⟨g, 0, none⟩) n cap) l) (i : Nat) (hi : i < l.length) : w.cell? ⟨g, i, none⟩ = some (.string l[i]) := by
  rcases h.2 with ⟨h1, _⟩ | ⟨g', cap', cur, h1, hb, hg, hnc, hcm, hcs, htake⟩
  · cases h1
  · simp only [Value.slice.injEq, Option.some.injEq, Addr.mk.injEq, and_true] at h1
    obtain ⟨rfl, rfl, rfl⟩ := h1
    rw [cell_of_row w g i cur 9 (0, 0) hg]
    rw [Nat.mul_one] at htake
    have e : (cur.toList.take l.length)[i]? = (l.map Value.string)[i]? := by rw [htake]
    rw [List.getElem?_take_of_lt hi, List.getElem?_map, List.getElem?_eq_getElem hi, Array.getElem?_toList] at e
    exact e
-- left out in this seat: wpList_append_one
end Go.Proofs.Ytfohdolhobooiaa.Cu
