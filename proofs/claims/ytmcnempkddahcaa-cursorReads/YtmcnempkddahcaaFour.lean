/-
  Two writers of the program's and two of the document's, side by side; scripts among the arguments.
-/
import Derived.Test.YtmcnempkddahcaaWants
import Derived.Test.YtmcnempkddahcaaVals
namespace Go.Proofs.Ytmcnempkddahcaa
open Go.RowKit
structure OL where
  two : Bool
  V : VL
  K : Int
  N : Int
def ov (O : OL) : Nat → Value := fun i => if i = 0 then .bool O.two else if i < 38 then vv O.V (i - 1) else if i = 38 then .int .i64 O.K else .int .i64 O.N
def Ops (w : World) (ad : Option Addr) (os : List OL) : Prop := os = [] ∨ ∃ b o, ad = some ⟨b, o, none⟩ ∧ b < w.heap.size ∧ ∀ i (h : i < os.length), At w b (o + i * 40) (ov os[i]) 40
theorem Ops.get {w : World} {ad : Option Addr} {os : List OL} (h : Ops w ad os) (k : Nat) (hk : k < os.length) : ∃ b o, ad = some ⟨b, o, none⟩ ∧ b < w.heap.size ∧ At w b (o + k * 40) (ov os[k]) 40 := by
  rcases h with rfl | ⟨b, o, h1, h2, h3⟩
  · exact absurd hk (by simp)
  · exact ⟨b, o, h1, h2, h3 k hk⟩
theorem op_two {w : World} {b of : Nat} {O : OL} (h : At w b of (ov O) 40) : w.cell? ⟨b, of, none⟩ = some (.bool O.two) := h 0 (by omega)
theorem op_val {w : World} {b of : Nat} {O : OL} (h : At w b of (ov O) 40) : At w b (of + 1) (vv O.V) 37 := fun j hj => by
  have := h (1 + j) (by omega)
  rw [← Nat.add_assoc] at this
  rw [this]
  unfold ov
  rw [if_neg (by omega), if_pos (by omega), Nat.add_sub_cancel_left]
structure Pts (w0 : World) (P : Nat → Nat) : Prop where
  lt : ∀ i, i < 4 → P i < w0.heap.size
  inj : ∀ i j, i < 4 → j < 4 → i ≠ j → P i ≠ P j
structure Inv (w0 : World) (P : Nat → Nat) (wr : World) (v : Nat → Value) : Prop where
  os : wr.os = w0.os
  tape : wr.tape = w0.tape
  output : wr.output = w0.output
  size : w0.heap.size ≤ wr.heap.size
  new : ∀ i, i < 4 → ∀ k, (v i).ownBlock = some k → w0.heap.size ≤ k ∧ k < wr.heap.size
  dis : ∀ i j, i < 4 → j < 4 → i ≠ j → ∀ k, (v i).ownBlock = some k → (v j).ownBlock ≠ some k
  block : ∀ k, k < w0.heap.size → (∀ i, i < 4 → k ≠ P i) → wr.heap[k]? = w0.heap[k]?
theorem upd_same {α : Type} (f : Nat → α) (k : Nat) (v : α) : upd f k v k = v := by unfold upd; rw [if_pos rfl]
theorem upd_ne {α : Type} (f : Nat → α) (k i : Nat) (v : α) (h : i ≠ k) : upd f k v i = f i := by unfold upd; rw [if_neg h]
theorem Inv.step {w0 wr w1 : World} {P : Nat → Nat} {v : Nat → Value} {v' : Value} (hP : Pts w0 P) (h : Inv w0 P wr v) (i : Nat) (hi : i < 4) (hM : Mw (P i) wr (v i) w1 v') (hv : ∀ k, v'.ownBlock = some k → k < w1.heap.size) :
    Inv w0 P w1 (upd v i v') ∧ ∀ j, j < 4 → j ≠ i → w1.heap[P j]? = wr.heap[P j]? ∧ ∀ k, (v j).ownBlock = some k → w1.heap[k]? = wr.heap[k]? := by
  have hs := h.size
  refine ⟨⟨hM.os.trans h.os, hM.tape.trans h.tape, hM.output.trans h.output, Nat.le_trans h.size hM.size, ?_, ?_, ?_⟩, ?_⟩
  · intro j hj k hk
    by_cases e : j = i
    · subst e
      rw [upd_same] at hk
      refine ⟨?_, hv k hk⟩
      rcases hM.own k hk with h1 | h1
      · exact (h.new j hj k h1).1
      · omega
    · rw [upd_ne _ _ _ _ e] at hk
      have := h.new j hj k hk
      have := hM.size
      omega
  · intro a b ha hb hab k hk hk2
    by_cases ea : a = i
    · subst ea
      rw [upd_same] at hk
      rw [upd_ne _ _ _ _ (fun e => hab e.symm)] at hk2
      rcases hM.own k hk with h1 | h1
      · exact h.dis a b ha hb hab k h1 hk2
      · have := (h.new b hb k hk2).2; omega
    · rw [upd_ne _ _ _ _ ea] at hk
      by_cases eb : b = i
      · subst eb
        rw [upd_same] at hk2
        rcases hM.own k hk2 with h1 | h1
        · exact h.dis a b ha hb hab k hk h1
        · have := (h.new a ha k hk).2; omega
      · rw [upd_ne _ _ _ _ eb] at hk2
        exact h.dis a b ha hb hab k hk hk2
  · intro k hk hn
    rw [hM.block k (by omega) (hn i hi) (fun e => by have := (h.new i hi k e).1; omega)]
    exact h.block k hk hn
  · intro j hj hji
    have hl := hP.lt j hj
    refine ⟨hM.block (P j) (by omega) (hP.inj j i hj hi hji) (fun e => by have := (h.new i hi _ e).1; omega), fun k hk => ?_⟩
    have h1 := h.new j hj k hk
    have h2 := hP.lt i hi
    exact hM.block k h1.2 (by omega) (fun e => h.dis j i hj hi hji k hk e)
theorem Inv.below {w0 wr w1 : World} {P : Nat → Nat} {v : Nat → Value} (h : Inv w0 P wr v) (hb : Below wr.heap.size wr w1) : Inv w0 P w1 v :=
  ⟨hb.os.trans h.os, hb.tape.trans h.tape, hb.output.trans h.output, Nat.le_trans h.size hb.size, fun i hi k hk => ⟨(h.new i hi k hk).1, Nat.lt_of_lt_of_le (h.new i hi k hk).2 hb.size⟩, h.dis, fun k hk hn => (hb.block k (Nat.lt_of_lt_of_le hk h.size)).trans (h.block k hk hn)⟩
/-- What was there ahead of all. -/
theorem Inv.old {w w0 wr : World} {P : Nat → Nat} {v : Nat → Value} (h : Inv w0 P wr v) (hb : Below w.heap.size w w0) (hp : ∀ i, i < 4 → w.heap.size ≤ P i) : Below w.heap.size w wr :=
  ⟨h.os.trans hb.os, h.tape.trans hb.tape, h.output.trans hb.output, Nat.le_trans hb.size h.size, fun k hk => (h.block k (Nat.lt_of_lt_of_le hk hb.size) (fun i hi e => by have := hp i hi; omega)).trans (hb.block k hk)⟩
structure St2 (w0 : World) (P : Nat → Nat) (wr : World) (v : Nat → Value) (sc sr : Nat → Option (List UInt8)) : Prop where
  inv : Inv w0 P wr v
  code : ∀ i, i < 2 → CW wr (P i) (v i) (sc i)
  ref : ∀ i, i < 2 → RW wr (P (i + 2)) (v (i + 2)) (sr i)
theorem St2.below {w0 wr w1 : World} {P : Nat → Nat} {v : Nat → Value} {sc sr : Nat → Option (List UInt8)} (h : St2 w0 P wr v sc sr) (hb : Below wr.heap.size wr w1) : St2 w0 P w1 v sc sr :=
  ⟨h.inv.below hb, fun i hi => (h.code i hi).below hb, fun i hi => (h.ref i hi).below hb⟩
theorem St2.stepC {w0 wr w1 : World} {P : Nat → Nat} {v : Nat → Value} {sc sr : Nat → Option (List UInt8)} {v' : Value} {s' : Option (List UInt8)} (hP : Pts w0 P) (h : St2 w0 P wr v sc sr) (i : Nat) (hi : i < 2) (hM : Mw (P i) wr (v i) w1 v') (hC : CW w1 (P i) v' s') :
    St2 w0 P w1 (upd v i v') (upd sc i s') sr := by
  obtain ⟨h1, h2⟩ := h.inv.step hP i (by omega) hM (fun k hk => (hC.own k hk).2)
  refine ⟨h1, fun j hj => ?_, fun j hj => ?_⟩
  · by_cases e : j = i
    · subst e; rw [upd_same, upd_same]; exact hC
    · rw [upd_ne _ _ _ _ e, upd_ne _ _ _ _ e]
      obtain ⟨e1, e2⟩ := h2 j (by omega) e
      exact (h.code j hj).same e1 e2
  · have e : j + 2 ≠ i := by omega
    rw [upd_ne _ _ _ _ e]
    obtain ⟨e1, e2⟩ := h2 (j + 2) (by omega) e
    exact (h.ref j hj).same e1 e2
theorem St2.stepR {w0 wr w1 : World} {P : Nat → Nat} {v : Nat → Value} {sc sr : Nat → Option (List UInt8)} {v' : Value} {s' : Option (List UInt8)} (hP : Pts w0 P) (h : St2 w0 P wr v sc sr) (i : Nat) (hi : i < 2) (hM : Mw (P (i + 2)) wr (v (i + 2)) w1 v') (hC : RW w1 (P (i + 2)) v' s') :
    St2 w0 P w1 (upd v (i + 2) v') sc (upd sr i s') := by
  obtain ⟨h1, h2⟩ := h.inv.step hP (i + 2) (by omega) hM (fun k hk => (hC.own k hk).2)
  refine ⟨h1, fun j hj => ?_, fun j hj => ?_⟩
  · have e : j ≠ i + 2 := by omega
    rw [upd_ne _ _ _ _ e]
    obtain ⟨e1, e2⟩ := h2 j (by omega) e
    exact (h.code j hj).same e1 e2
  · by_cases e : j = i
    · subst e; rw [upd_same, upd_same]; exact hC
    · rw [upd_ne _ _ _ _ e, upd_ne _ _ _ _ (by omega)]
      obtain ⟨e1, e2⟩ := h2 (j + 2) (by omega) (by omega)
      exact (h.ref j hj).same e1 e2
end Go.Proofs.Ytmcnempkddahcaa
