/-
  The statements' own helpers: all, text, step, made.
-/
import Derived.Test.YtcmhfpiglacdaaaGreatHelps
namespace Go.Proofs.YtcmhfpiglacdaaaGreat
open Go.RowKit Go.Maps Go.WideMaps
set_option linter.unusedVariables false
set_option linter.unusedSimpArgs false
def AD.all (A : AD) (k : Key) : Key := (A.read k 0 1048576).1
/-- One step of a script. -/
structure OP where
  kind : Int
  two : Bool
  name : ByteArray
  to : ByteArray
  at_ : Int
  n : Int
  text : ByteArray
  ad : Option Addr
  fates : List FT
  cap : Nat
def OP.cs (o : OP) : Array Value := #[.int .i64 o.kind, .bool o.two, .string o.name, .string o.to, .int .i64 o.at_, .int .i64 o.n, .string o.text, .slice o.ad o.fates.length o.cap]
structure OP.Ok (o : OP) : Prop where
  name : o.name.size ≤ maxLen
  to : o.to.size ≤ maxLen
  a0 : -9223372036854775808 ≤ o.at_
  a1 : o.at_ < 9223372036854775808
  n0 : -9223372036854775808 ≤ o.n
  n1 : o.n < 9223372036854775808
  text : o.text.size ≤ 140737488355328
  fates : ∀ x ∈ o.fates, x.Ok
  len : o.fates.length ≤ 9223372036854775807
/-- Where its fates lie. -/
theorem FatesAt.later {B : Nat} {w w' : World} {ad : Option Addr} {ls : List FT} (h : FatesAt w ad ls) (hb : Below B w w') (hB : ls ≠ [] → ∀ b o, ad = some ⟨b, o, none⟩ → b < B) : FatesAt w' ad ls := by
  by_cases he : ls = []
  · exact .inl he
  · exact h.below hb (hB he)
structure OP.Lie (B : Nat) (w : World) (o : OP) : Prop where
  at_ : FatesAt w o.ad o.fates
  lt : o.fates ≠ [] → ∀ b f, o.ad = some ⟨b, f, none⟩ → b < B
theorem OP.Lie.below {B : Nat} {w w' : World} {o : OP} (h : o.Lie B w) (hb : Below B w w') : o.Lie B w' := ⟨h.at_.later hb h.lt, h.lt⟩
def AD.step (A : AD) (o : OP) : Int × AD :=
  if o.kind = 1 then A.write o.name.data.toList o.at_ o.text.data.toList
  else if o.kind = 2 then A.sync o.name.data.toList
  else if o.kind = 3 then A.trunc o.name.data.toList o.n
  else if o.kind = 4 then A.rename o.name.data.toList o.to.data.toList
  else if o.kind = 5 then A.remove o.name.data.toList
  else if o.kind = 7 then (0, A.armed o.n o.at_)
  else if o.kind = 11 then (0, A.fallen o.n)
  else if o.kind = 8 then (0, A.crash (o.fates.map FT.abs))
  else if o.kind = 9 then (0, A.on)
  else (0, A)
theorem set_same {α : Type} {L : List α} {i : Nat} {x : α} (h : L[i]? = some x) : L.set i x = L := by
  obtain ⟨hl, rfl⟩ := List.getElem?_eq_some_iff.1 h
  exact List.set_getElem_self hl
def OpsAt (w : World) (ad : Option Addr) (os : List OP) : Prop := os = [] ∨ ∃ b o, ad = some ⟨b, o, none⟩ ∧ b < w.heap.size ∧ ∀ i (h : i < os.length) j, j < 8 → w.cell? ⟨b, o + i * 8 + j, none⟩ = (os[i].cs)[j]?
/-- A script among the arguments. -/
structure Script (B : Nat) (w : World) (ad : Option Addr) (os : List OP) : Prop where
  at_ : OpsAt w ad os
  lt : os ≠ [] → ∀ b o, ad = some ⟨b, o, none⟩ → b < B
  ok : ∀ o ∈ os, o.Ok
  lie : ∀ o ∈ os, o.Lie B w
  len : os.length ≤ maxLen
theorem Script.below {B : Nat} {w w' : World} {ad : Option Addr} {os : List OP} (h : Script B w ad os) (hb : Below B w w') : Script B w' ad os := by
  refine ⟨?_, h.lt, h.ok, fun o ho => (h.lie o ho).below hb, h.len⟩
  rcases h.at_ with x | ⟨b, o, ha, hlt, hc⟩
  · exact .inl x
  · refine .inr ⟨b, o, ha, Nat.lt_of_lt_of_le hlt hb.size, fun i hi j hj => ?_⟩
    rw [← hc i hi j hj]
    exact World.cell?_of_block (hb.block b (h.lt (fun e => by rw [e] at hi; simp at hi) b o ha))
/-- The cells of one step. -/
theorem Script.cells {B : Nat} {w : World} {ad : Option Addr} {os : List OP} (h : Script B w ad os) {k : Nat} (hk : k < os.length) : ∃ b o, ad = some ⟨b, o, none⟩ ∧ ∀ j, j < 8 → w.cell? ⟨b, o + k * 8 + j, none⟩ = (os[k].cs)[j]? := by
  rcases h.at_ with x | ⟨b, o, ha, hlt, hc⟩
  · rw [x] at hk; simp at hk
  · exact ⟨b, o, ha, fun j hj => hc k hk j hj⟩
def playD (A : AD) (os : List OP) : AD := os.foldl (fun A o => (A.step o).2) A
def madeD (os : List OP) : AD := (((playD (AD.fresh 100000) os).on).armed 0 0).fallen 0
theorem playD_snoc (A : AD) (os : List OP) (k : Nat) (h : k < os.length) : playD A (os.take (k + 1)) = ((playD A (os.take k)).step os[k]).2 := by
  unfold playD
  rw [take_snoc os k h, List.foldl_append]
  rfl
end Go.Proofs.YtcmhfpiglacdaaaGreat
