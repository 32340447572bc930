/-
  The reader: what it has and its fault; stop, take, Err, Rest, Done, Open.
-/
import Derived.Test.YtlohfoggcdaeiaaGreatCurClone
namespace Go.Proofs.YtlohfoggcdaeiaaGreat.Cu
set_option maxRecDepth 20000
open Go.RowKit
abbrev RS := ByteArray × Int
def nil8 : ByteArray := { data := #[] }
/-- The program's reader at p. -/
def CR (w : World) (p : Nat) (st : RS) : Prop := Two 141 w p (.string st.1) st.2
def stopS (c : Int) (st : RS) : RS := if st.2 = 0 then (nil8, c) else st
def takeS (n : Int) (st : RS) : RS := if st.2 = 0 then (if (st.1.size : Int) < n then (nil8, 2) else (st.1.extract n.toNat st.1.size, 0)) else st
def takeA (n : Int) (st : RS) : ByteArray := if st.2 = 0 then (if (st.1.size : Int) < n then nil8 else st.1.extract 0 n.toNat) else nil8
/-- A step on what lies at p alone. -/
def Mr (p : Nat) (w w' : World) : Prop := Mw p w (.slice none 0 0) w' (.slice none 0 0)
theorem Mr.refl (p : Nat) (w : World) : Mr p w w := Mw.refl _ _ _
theorem Mr.trans {p : Nat} {w w1 w2 : World} (h : Mr p w w1) (k : Mr p w1 w2) : Mr p w w2 := Mw.trans h k
theorem Mr.of {p : Nat} {w w' : World} (h : Below w.heap.size w w') : Mr p w w' := Mw.of_below h
theorem Mr.block {p : Nat} {w w' : World} (h : Mr p w w') (k : Nat) (hk : k < w.heap.size) (hp : k ≠ p) : w'.heap[k]? = w.heap[k]? := Mw.block h k hk hp (by simp [Value.ownBlock])
theorem Mr.below {p B : Nat} {w w' : World} (h : Mr p w w') (hp : B ≤ p) (hB : B ≤ w.heap.size) : Below B w w' := Mw.below h hp hB (by simp [Value.ownBlock])
theorem Mr.size {p : Nat} {w w' : World} (h : Mr p w w') : w.heap.size ≤ w'.heap.size := Mw.size h
theorem Mr.set {p i : Nat} {w : World} (v : Value) : Mr p w (w.setCell ⟨p, i, none⟩ v) :=
  ⟨rfl, rfl, rfl, by simp, fun k _ hp _ => Below.heap_setCell w ⟨p, i, none⟩ v k hp, fun _ h => by simp [Value.ownBlock] at h⟩
theorem CR.lt {w : World} {p : Nat} {st : RS} (h : CR w p st) : p < w.heap.size := Two.lt h
theorem CR.same {w w' : World} {p : Nat} {st : RS} (h : CR w p st) (e : w'.heap[p]? = w.heap[p]?) : CR w' p st := Two.same h e
theorem CR.below {w w' : World} {p : Nat} {st : RS} (h : CR w p st) (hb : Below w.heap.size w w') : CR w' p st := Two.same h (hb.block p (Two.lt h))
set_option maxHeartbeats 1000000 in
theorem rStop (c : Int) (p : Nat) (st : RS) (w : World) (h : CR w p st) :
    Calls Tryz.prog 98 #[.pointer (some ⟨p, 0, none⟩), .int .i64 c] w fun e w' => e = .returned (.tuple #[]) ∧ CR w' p (stopS c st) ∧ Mr p w w' := by
  obtain ⟨s, f⟩ := st
  have c0 := Two.c0 h
  have c1 := Two.c1 h
  have f0 := Two.fz h 0
  have hS := Two.set0 h (.string nil8)
  have d1 := hS.c1
  have e1 := hS.fz 1
  simp only at c0 c1 d1
  by_cases hf : f = 0
  · subst hf
    have hm : nil8 = { data := #[] } := rfl
    rw [hm] at d1 e1 hS
    go_enter Tryz.func98, Tryz.ntmps98
    go_wp2
    go_end0
    exact ⟨rfl, hS.set1 c, (Mr.set _).trans (Mr.set _)⟩
  · have hq : (f == 0) = false := beq_eq_false_iff_ne.2 hf
    have hs : stopS c (s, f) = (s, f) := by unfold stopS; rw [if_neg hf]
    rw [hs]
    clear hs hS d1 e1 f0
    go_enter Tryz.func98, Tryz.ntmps98
    go_wp2
    go_end0
    exact ⟨rfl, h, Mr.refl _ _⟩
set_option maxHeartbeats 1000000 in
theorem rTake (n : Int) (p : Nat) (st : RS) (w : World) (h : CR w p st) (hn : st.2 ≠ 0 ∨ 0 ≤ n) :
    Calls Tryz.prog 85 #[.pointer (some ⟨p, 0, none⟩), .int .i64 n] w fun e w' => e = .returned (.string (takeA n st)) ∧ CR w' p (takeS n st) ∧ Mr p w w' := by
  obtain ⟨s, f⟩ := st
  have c0 := Two.c0 h
  have c1 := Two.c1 h
  simp only at c0 c1 hn
  have hm : nil8 = { data := #[] } := rfl
  by_cases hf : f = 0
  · subst hf
    have hn0 : 0 ≤ n := hn.resolve_left (fun h => h rfl)
    clear hn
    by_cases hgt : (s.size : Int) < n
    · have e1 : takeA n (s, 0) = nil8 := by unfold takeA; rw [if_pos rfl, if_pos hgt]
      have e2 : takeS n (s, 0) = stopS 2 (s, 0) := by unfold takeS stopS; rw [if_pos rfl, if_pos rfl, if_pos hgt]
      rw [e1, e2]
      clear e1 e2
      go_enter Tryz.func85, Tryz.ntmps85
      go_wp2_with fail
      refine (rStop 2 p (s, 0) _ h).mono ?_
      rintro e w1 ⟨rfl, h1, hM⟩
      have d1 := Two.c1 h1
      have d2 : (stopS 2 (s, 0)).2 = 2 := rfl
      rw [d2] at d1
      clear d2 c1 c0
      go_wp2
      go_ret
      exact ⟨rfl, h1, hM⟩
    · obtain ⟨m, rfl⟩ := Int.eq_ofNat_of_zero_le hn0
      have hms : m ≤ s.size := by omega
      have e1 : takeA (m : Int) (s, 0) = s.extract 0 m := by unfold takeA; rw [if_pos rfl, if_neg hgt]; rfl
      have e2 : takeS (m : Int) (s, 0) = (s.extract m s.size, 0) := by unfold takeS; rw [if_pos rfl, if_neg hgt]; rfl
      rw [e1, e2]
      have f0 := Two.fz h 0
      have hS := Two.set0 h (.string (s.extract m s.size))
      clear e1 e2
      have hi0 : (0 : Int) ≤ (m : Int) := by omega
      have hi1 : (m : Int) ≤ (s.size : Int) := by omega
      go_enter Tryz.func85, Tryz.ntmps85
      go_wp2
      go_ret
      exact ⟨rfl, hS, Mr.set _⟩
  · have hq : (f == 0) = false := beq_eq_false_iff_ne.2 hf
    have hq2 : (f != 0) = true := by simp [hf]
    have e1 : takeA n (s, f) = nil8 := by unfold takeA; rw [if_neg hf]
    have e2 : takeS n (s, f) = (s, f) := by unfold takeS; rw [if_neg hf]
    have e3 : stopS 2 (s, f) = (s, f) := by unfold stopS; rw [if_neg hf]
    have E3 := hide e3
    rw [e1, e2]
    clear e1 e2 e3 hn
    by_cases hgt : (s.size : Int) < n
    · go_enter Tryz.func85, Tryz.ntmps85
      go_wp2_with fail
      refine (rStop 2 p (s, f) _ h).mono ?_
      rintro e w1 ⟨rfl, h1, hM⟩
      rw [E3.out] at h1
      have d1 := Two.c1 h1
      simp only at d1
      go_wp2
      go_ret
      exact ⟨rfl, h1, hM⟩
    · go_enter Tryz.func85, Tryz.ntmps85
      go_wp2
      go_ret
      exact ⟨rfl, h, Mr.refl _ _⟩
theorem rErr (p : Nat) (st : RS) (w : World) (h : CR w p st) : Calls Tryz.prog 61 #[.pointer (some ⟨p, 0, none⟩)] w fun e w' => e = .returned (.int .i64 st.2) ∧ w = w' := by
  have c1 := Two.c1 h
  go_enter Tryz.func61, Tryz.ntmps61
  go_wp2
  go_ret
  exact ⟨rfl, rfl⟩
theorem rRest (p : Nat) (st : RS) (w : World) (h : CR w p st) (hs : st.1.size ≤ 281474976710656) : Calls Tryz.prog 107 #[.pointer (some ⟨p, 0, none⟩)] w fun e w' => e = .returned (.string st.1) ∧ Below w.heap.size w w' := by
  have c0 := Two.c0 h
  have HS := hide hs
  clear hs
  go_enter Tryz.func107, Tryz.ntmps107
  go_wp2_with fail
  refine (clone_any st.1 _ HS.out).mono ?_
  rintro e w1 ⟨rfl, h1⟩
  go_wp2
  go_ret
  exact ⟨rfl, h1⟩
def doneS (st : RS) : Int := if st.1.size = 0 then st.2 else 4
-- left out in this seat: rDone
theorem rOpen (s : ByteArray) (w : World) : Calls Tryz.prog 54 #[.string s] w fun e w' => e = .returned (.pointer (some ⟨w.heap.size, 0, none⟩)) ∧ CR w' w.heap.size (s, 0) ∧ Below w.heap.size w w' ∧ w'.heap.size = w.heap.size + 1 := by
  go_enter Tryz.func54, Tryz.ntmps54
  go_wp2
  go_ret
  exact ⟨rfl, Two.new w 141 _ 0, (Below.refl _ _).alloc (Nat.le_refl _) _, by simp⟩
end Go.Proofs.YtlohfoggcdaeiaaGreat.Cu
