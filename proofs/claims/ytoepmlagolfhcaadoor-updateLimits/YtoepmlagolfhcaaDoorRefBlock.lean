/-
  The document's block.
-/
import Derived.Test.YtoepmlagolfhcaaDoorBytesText
namespace Go.Proofs.YtoepmlagolfhcaaDoor
open Go.RowKit S
theorem wpList_builtTo {P : Program} {ops : Array Oper} {rest : List Oper} {o : Oper} {a : Act} {w : World} {Q : Exit → Act → World → Prop} (hg : o.guard = none) (t : TypeId) (parts : Array (Nat × Operand)) (ho : o.op = .build t parts)
    (cells : Array Value) (hf : P.built t (parts.map fun (i, x) => (i, a.eval x)).toList = some cells)
    (h : wpList P ops Q rest (a.put o.dst (.agg cells)) w) : wpList P ops Q (o :: rest) a w := by
  refine wpList_build hg t parts ho (by rw [hf]; rfl) ?_
  rw [hf]
  exact h
theorem wpList_store_arr {P : Program} {ops : Array Oper} {rest : List Oper} {o : Oper} {a : Act} {w : World} {Q : Exit → Act → World → Prop} (hgd : o.guard = none) (ty : TypeId) (x y : Operand) (ho : o.op = .store ty x y) (hd : o.dst = none)
    (g of : Nat) (h : Nat → Value) (m : Nat) (hx : a.eval x = .pointer (some ⟨g, of, none⟩)) {cs : Array Value} (hy : a.eval y = .agg cs) (hcs : cs = tabv h m)
    (t : TypeId) (f : Nat → Value) (M : Nat) (hg : Has w g t f M) (hm : of + m ≤ M) (hi : (P.info? ty).map (·.size) = some m)
    (h1 : ∀ i, i < m → (h i).oneCell' = true) (f' : Nat → Value) (hf : ∀ i, i < M → splice f of h m i = f' i)
    (hk : wpList P ops Q rest a (w.setRow g (tabv f' M))) : wpList P ops Q (o :: rest) a w :=
  wpList_store_part hgd ty x y ho hd g of h m hx (by rw [hy, hcs]) t f M hg hm hi h1 f' hf hk
theorem kLit (n : Num) : tabv (fun i => .int .u32 ((K i).toNat : Int)) 64 = tabv (wv n K) 64 := tabv_congr _ _ _ fun i _ => by unfold wv; rw [n.eq]
-- left out in this seat: refRounds_any
attribute [local go_sem] Num.not' Num.shr3 Num.shr10 Num.shl Num.shr Num.or Num.xor Num.and Num.add Num.not
-- left out in this seat: refBlock_any
end Go.Proofs.YtoepmlagolfhcaaDoor
