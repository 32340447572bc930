import Derived.Test.YtlkimfmilccanaaGreatKOpen
import Derived.Test.YtlkimfmilccanaaGreatMkSame
/-
  The statements' scripts: lists of steps of five cells each.
-/
namespace Go.Proofs.YtlkimfmilccanaaGreat
open Go.RowKit Go.Maps Go.WideMaps
set_option linter.unusedVariables false
structure MOp where
  kind : Int
  two : Bool
  n : Int
  text : ByteArray
  ad : Option Addr
  fates : List FT
  cap : Nat
def MOp.cs (o : MOp) : Array Value := #[.int .i64 o.kind, .bool o.two, .int .i64 o.n, .string o.text, .slice o.ad o.fates.length o.cap]
def MOp.Good (B : Nat) (w : World) (o : MOp) : Prop := KGood B w [o.kind, o.n] [o.text] o.ad o.fates
structure MRows (B : Nat) (w : World) (ad : Option Addr) (xs : List MOp) : Prop where
  at_ : xs = [] ∨ ∃ b o, ad = some ⟨b, o, none⟩ ∧ b < w.heap.size ∧ ∀ i (h : i < xs.length) j, j < 5 → w.cell? ⟨b, o + i * 5 + j, none⟩ = (xs[i].cs)[j]?
  lt : xs ≠ [] → ∀ b o, ad = some ⟨b, o, none⟩ → b < B
  good : ∀ x ∈ xs, x.Good B w
  sz : xs.length * 64 ≤ 140737488355328
theorem MRows.below {B : Nat} {w w' : World} {ad : Option Addr} {xs : List MOp} (h : MRows B w ad xs) (hb : Below B w w') : MRows B w' ad xs := by
  refine ⟨?_, h.lt, fun o ho => (KGood.below (show KGood B w [o.kind, o.n] [o.text] o.ad o.fates from h.good o ho) hb : KGood B w' [o.kind, o.n] [o.text] o.ad o.fates), h.sz⟩
  rcases h.at_ with x | ⟨b, o, ha, hlt, hc⟩
  · exact .inl x
  · refine .inr ⟨b, o, ha, Nat.lt_of_lt_of_le hlt hb.size, fun i hi j hj => ?_⟩
    rw [← hc i hi j hj]
    exact World.cell?_of_block (hb.block b (h.lt (fun e => by rw [e] at hi; simp at hi) b o ha))
theorem MRows.cells {B : Nat} {w : World} {ad : Option Addr} {xs : List MOp} (h : MRows B w ad xs) {k : Nat} (hk : k < xs.length) : ∃ b o, ad = some ⟨b, o, none⟩ ∧ ∀ j, j < 5 → w.cell? ⟨b, o + k * 5 + j, none⟩ = (xs[k].cs)[j]? := by
  rcases h.at_ with x | ⟨b, o, ha, hlt, hc⟩
  · rw [x] at hk; simp at hk
  · exact ⟨b, o, ha, fun j hj => hc k hk j hj⟩
end Go.Proofs.YtlkimfmilccanaaGreat
/-
  (*Both).plays, kind by kind (printed by gen_play.py).
-/
namespace Go.Proofs.YtlkimfmilccanaaGreat
open Go.RowKit Go.Maps Go.WideMaps
set_option linter.unusedVariables false
set_option linter.unusedSimpArgs false
def xok (s : PS) : Prop := ∀ z, s = some z → z.2.2.2 ≤ 1
def PQ (p r : Nat) (A1 A2 : AD) (gb : Nat) (s0 s1 : PS) (L : List Item) : List Item := .disk p A1 :: .ref r A2 :: .block gb (.cells (bcells p r s0 s1) 75 (0, 0)) :: miP p (nameT false) s0 :: qiP r (nameT false) s0 :: miP p (nameT true) s1 :: qiP r (nameT true) s1 :: L
theorem PQ.ptrs {B : Nat} {w : World} {p r : Nat} {A1 A2 : AD} {gb : Nat} {s0 s1 : PS} {L : List Item} (h : Lies B w (PQ p r A1 A2 gb s0 s1 L)) : w.cell? ⟨gb, 0, none⟩ = some (.pointer (some ⟨p, 0, none⟩)) ∧ w.cell? ⟨gb, 1, none⟩ = some (.pointer (some ⟨r, 0, none⟩)) := by
  have hc := block_at (q := 2) h rfl
  exact ⟨by rw [cell_of_row w gb 0 _ _ (0, 0) hc]; rfl, by rw [cell_of_row w gb 1 _ _ (0, 0) hc]; rfl⟩
theorem Lies.drop1 {B : Nat} {w : World} {p r : Nat} {A1 A2 : AD} {gb : Nat} {s0 s1 : PS} {x : Item} (h : Lies B w (PQ p r A1 A2 gb s0 s1 [x])) : Lies B w (PQ p r A1 A2 gb s0 s1 []) := Lies.drop (L := PQ p r A1 A2 gb s0 s1 []) h
end Go.Proofs.YtlkimfmilccanaaGreat
