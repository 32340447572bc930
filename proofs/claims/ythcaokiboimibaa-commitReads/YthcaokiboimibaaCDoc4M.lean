/-
  The document's Read (printed by gen_c15.py).
-/
import Derived.Test.YthcaokiboimibaaCDoc3
namespace Go.Proofs.Ythcaokiboimibaa
open Go.RowKit S
set_option linter.unusedVariables false
set_option linter.unusedSimpArgs false
open Cu (nb be hl ofL)
theorem sub_mid {b : ByteArray} {p q r : List UInt8} {a k : Nat} (hb : b = ofL (p ++ (q ++ r))) (ha : p.length = a) (hk : q.length = k) : sub b a k = q := by
  unfold sub
  rw [hb, Cu.ofL_data, ← ha, List.drop_left, ← hk, List.take_left]
theorem byte_mid {b : ByteArray} {p r : List UInt8} {c : UInt8} {a : Nat} (hb : b = ofL (p ++ (c :: r))) (ha : p.length = a) : Cu.byteAt b.data.toList a = c := by
  unfold Cu.byteAt
  rw [hb, Cu.ofL_data, ← ha, List.getD_eq_getElem?_getD, List.getElem?_append_right (Nat.le_refl _), Nat.sub_self]
  rfl
theorem hAt_mid {b : ByteArray} {p r : List UInt8} {h : Nat → UInt8} {a : Nat} (hb : b = ofL (p ++ (hl h ++ r))) (ha : p.length = a) : eqH (hAt b a 32) h = true := by
  refine (eqH_iff _ _).2 fun i hi => ?_
  have hs : a + 32 ≤ b.size := by rw [hb, Cu.ofL_size, List.length_append, List.length_append, Cu.hl_length]; omega
  have e := sub_mid hb ha (Cu.hl_length h)
  unfold hAt
  rw [if_pos hi, ← sub_get hi hs, e]
  exact hashOf_hl h i hi
/-- What the document reads at the place of the add j. -/
def penD (b : ByteArray) (j : Nat) : Pen := ⟨(Cu.byteAt b.data.toList (59 + 49 * j) == 1), i64 (be (sub b (60 + 49 * j) 8)), i64 (be (sub b (68 + 49 * j) 8)), hAt b (76 + 49 * j) 32⟩
theorem penD_rng (b : ByteArray) (j : Nat) : (penD b j).id ≤ 9223372036854775807 := by
  unfold penD i64
  simp only [IntKind.wrap_i64]
  omega
theorem rangeD (b : ByteArray) (k : Nat) : Rng ((List.range k).map (penD b)) := fun p hp => by
  obtain ⟨i, _, rfl⟩ := List.mem_map.1 hp
  exact penD_rng b i
theorem be8 (x : Int) : be (nb (Go.Proofs.Ythcaokiboimibaa.u64 x) 8) = Go.Proofs.Ythcaokiboimibaa.u64 x := be_nb8 _ (u64_lt _)
theorem RdOk.pens {b : ByteArray} {o n : Int} {h : Nat → UInt8} {x y : Int} {l : List Pen} (k : RdOk b o n h x y l) : eqL ((List.range l.length).map (penD b)) l := by
  refine ⟨by simp, fun i p q hp hq => ?_⟩
  have hi : i < l.length := (List.getElem?_eq_some_iff.1 hq).1
  rw [List.getElem?_map, List.getElem?_range hi] at hp
  simp only [Option.map_some, Option.some.injEq] at hp
  subst hp
  have hm : q ∈ l := List.mem_of_getElem? hq
  have hok := okP_rng (k.snd.ok hm)
  have hid := k.rng q hm
  have e0 : opensB l = opensB (l.take i) ++ (penB q ++ opensB (l.drop (i + 1))) := by
    conv => lhs; rw [← List.take_append_drop i l]
    rw [List.drop_eq_getElem_cons hi]
    have hqi : l[i] = q := (List.getElem?_eq_some_iff.1 hq).2
    rw [hqi]
    unfold opensB
    rw [List.flatMap_append, List.flatMap_cons]
  obtain ⟨P, hP⟩ : ∃ P, headB o n h x y l.length ++ opensB (l.take i) = P := ⟨_, rfl⟩
  have hPl : P.length = 59 + 49 * i := by rw [← hP, List.length_append, headB_length, opensB_length, List.length_take]; omega
  obtain ⟨Rr, hR⟩ : ∃ R, opensB (l.drop (i + 1)) = R := ⟨_, rfl⟩
  have eb : b = ofL (P ++ (nb (if q.ours = true then 1 else 0) 1 ++ (nb (Go.Proofs.Ythcaokiboimibaa.u64 q.id) 8 ++ (nb (Go.Proofs.Ythcaokiboimibaa.u64 q.amt) 8 ++ (hl q.hash ++ Rr))))) := by
    rw [k.eq]
    unfold textB
    rw [e0, ← hP, ← hR]
    unfold penB
    simp only [List.append_assoc]
  refine (eqP_iff _ _).2 ⟨?_, ?_, ?_, ?_⟩
  · have : Cu.byteAt b.data.toList (59 + 49 * i) = UInt8.ofNat (if q.ours = true then 1 else 0) := by
      rw [nb_one] at eb
      exact byte_mid eb hPl
    show (Cu.byteAt b.data.toList (59 + 49 * i) == 1) = q.ours
    rw [this]
    cases q.ours <;> decide
  · show i64 (be (sub b (60 + 49 * i) 8)) = q.id
    have e1 := sub_mid (b := b) (p := P ++ nb (if q.ours = true then 1 else 0) 1) (r := nb (Go.Proofs.Ythcaokiboimibaa.u64 q.amt) 8 ++ (hl q.hash ++ Rr)) (a := 60 + 49 * i) (by rw [eb, List.append_assoc]) (by rw [List.length_append, hPl, Cu.nb_length]; omega) (Cu.nb_length (Go.Proofs.Ythcaokiboimibaa.u64 q.id) 8)
    rw [e1, be8]
    exact u64_back (by omega) hid
  · show i64 (be (sub b (68 + 49 * i) 8)) = q.amt
    have e1 := sub_mid (p := (P ++ nb (if q.ours = true then 1 else 0) 1) ++ nb (Go.Proofs.Ythcaokiboimibaa.u64 q.id) 8) (r := hl q.hash ++ Rr) (b := b) (a := 68 + 49 * i) (by rw [eb]; simp only [List.append_assoc]) (by rw [List.length_append, List.length_append, hPl, Cu.nb_length, Cu.nb_length]; omega) (Cu.nb_length (Go.Proofs.Ythcaokiboimibaa.u64 q.amt) 8)
    rw [e1, be8]
    exact u64_back (by omega) (by omega)
  · exact hAt_mid (p := ((P ++ nb (if q.ours = true then 1 else 0) 1) ++ nb (Go.Proofs.Ythcaokiboimibaa.u64 q.id) 8) ++ nb (Go.Proofs.Ythcaokiboimibaa.u64 q.amt) 8) (r := Rr) (by rw [eb]; simp only [List.append_assoc]) (by rw [List.length_append, List.length_append, List.length_append, hPl, Cu.nb_length, Cu.nb_length, Cu.nb_length]; omega)
theorem RdOk.headD {b : ByteArray} {o n : Int} {h : Nat → UInt8} {x y : Int} {l : List Pen} (k : RdOk b o n h x y l) : ((Cu.byteAt b.data.toList 0).toNat : Int) = o ∧ i64 (be (sub b 1 8)) = n ∧ eqH (hAt b 9 32) h = true ∧ i64 (be (sub b 41 8)) = x ∧ i64 (be (sub b 49 8)) = y := by
  have ha := k.arg
  unfold Arg at ha
  have hx := amB_rng k.snd.1.1
  have hy := amB_rng k.snd.1.2
  obtain ⟨Rr, hR⟩ : ∃ R, nb l.length 2 ++ opensB l = R := ⟨_, rfl⟩
  have eb : b = ofL (nb o.toNat 1 ++ (nb (Go.Proofs.Ythcaokiboimibaa.u64 n) 8 ++ (hl h ++ (nb (Go.Proofs.Ythcaokiboimibaa.u64 x) 8 ++ (nb (Go.Proofs.Ythcaokiboimibaa.u64 y) 8 ++ Rr))))) := by
    rw [k.eq, ← hR]
    unfold textB headB
    simp only [List.append_assoc]
  refine ⟨?_, ?_, ?_, ?_, ?_⟩
  · have e := byte_mid (b := b) (p := []) (c := UInt8.ofNat o.toNat) (r := nb (Go.Proofs.Ythcaokiboimibaa.u64 n) 8 ++ (hl h ++ (nb (Go.Proofs.Ythcaokiboimibaa.u64 x) 8 ++ (nb (Go.Proofs.Ythcaokiboimibaa.u64 y) 8 ++ Rr)))) (a := 0) (by rw [eb, nb_one]; rfl) rfl
    rw [e, UInt8.toNat_ofNat', Nat.mod_eq_of_lt (by omega)]
    omega
  · rw [sub_mid (p := nb o.toNat 1) (a := 1) eb (Cu.nb_length _ _) (Cu.nb_length (Go.Proofs.Ythcaokiboimibaa.u64 n) 8), be8]
    exact u64_back (by omega) (by omega)
  · exact hAt_mid (p := nb o.toNat 1 ++ nb (Go.Proofs.Ythcaokiboimibaa.u64 n) 8) (r := nb (Go.Proofs.Ythcaokiboimibaa.u64 x) 8 ++ (nb (Go.Proofs.Ythcaokiboimibaa.u64 y) 8 ++ Rr)) (by rw [eb, List.append_assoc]) (by rw [List.length_append, Cu.nb_length, Cu.nb_length])
  · rw [sub_mid (p := (nb o.toNat 1 ++ nb (Go.Proofs.Ythcaokiboimibaa.u64 n) 8) ++ hl h) (b := b) (r := nb (Go.Proofs.Ythcaokiboimibaa.u64 y) 8 ++ Rr) (a := 41) (by rw [eb]; simp only [List.append_assoc]) (by rw [List.length_append, List.length_append, Cu.nb_length, Cu.nb_length, Cu.hl_length]) (Cu.nb_length (Go.Proofs.Ythcaokiboimibaa.u64 x) 8), be8]
    exact u64_back (by omega) (by omega)
  · rw [sub_mid (p := ((nb o.toNat 1 ++ nb (Go.Proofs.Ythcaokiboimibaa.u64 n) 8) ++ hl h) ++ nb (Go.Proofs.Ythcaokiboimibaa.u64 x) 8) (b := b) (r := Rr) (a := 49) (by rw [eb]; simp only [List.append_assoc]) (by rw [List.length_append, List.length_append, List.length_append, Cu.nb_length, Cu.nb_length, Cu.hl_length, Cu.nb_length]) (Cu.nb_length (Go.Proofs.Ythcaokiboimibaa.u64 y) 8), be8]
    exact u64_back (by omega) (by omega)
end Go.Proofs.Ythcaokiboimibaa
