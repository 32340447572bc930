import Derived.Test.YtlkimfmilccanaaGreatKFirst
import Derived.Test.YtlkimfmilccanaaGreatFFrame
/-
  A MARK'S SLOTS, PLAIN: their bytes, what is whole, which slot is next; Open and Raise on the disk in plain words. Nothing of the program's calls.
-/
namespace Go.Proofs.YtlkimfmilccanaaGreat
open Go.RowKit
set_option linter.unusedVariables false
set_option linter.unusedSimpArgs false
/-- The number's 64 bits. -/
def bits64 (v : Int) : Nat := (v % 18446744073709551616).toNat
/-- The number that 64 bits are. -/
def sgn64 (n : Nat) : Int := IntKind.i64.wrap (n : Int)
def crcN (t : Key) : Nat := (Fr.C.on 0#32 t).toNat
def slotH (v : Int) : Key := Fr.nb (bits64 v) 8 ++ Fr.nb (crcN (Fr.nb (bits64 v) 8)) 4
def slotL (v : Int) : Key := slotH v ++ List.replicate 52 0
def numB (v : Int) : Bool := decide (-1 ≤ v) && decide (v ≤ 281474976710655)
def valL (t : Key) : Int := sgn64 (Fr.be (t.take 8))
def wholeL (t : Key) : Option Int := if numB (valL t) = true ∧ t.take 12 = slotH (valL t) then some (valL t) else none
theorem numB_iff {v : Int} : numB v = true ↔ -1 ≤ v ∧ v ≤ 281474976710655 := by
  unfold numB
  rw [Bool.and_eq_true, decide_eq_true_iff, decide_eq_true_iff]
theorem slotH_length (v : Int) : (slotH v).length = 12 := by
  unfold slotH
  rw [List.length_append, Fr.nb_length, Fr.nb_length]
theorem slotL_length (v : Int) : (slotL v).length = 64 := by
  unfold slotL
  rw [List.length_append, slotH_length, List.length_replicate]
theorem slotL_take (v : Int) : (slotL v).take 12 = slotH v := by
  unfold slotL
  rw [List.take_left' (slotH_length v)]
theorem slotH_take (v : Int) : (slotH v).take 8 = Fr.nb (bits64 v) 8 := by
  unfold slotH
  rw [List.take_left' (Fr.nb_length _ _)]
theorem sgn_bits {v : Int} (h : -9223372036854775808 ≤ v ∧ v < 9223372036854775808) : sgn64 (bits64 v) = v := by
  unfold sgn64 bits64
  rw [IntKind.wrap_i64]
  omega
theorem bits_lt (v : Int) : bits64 v < 256 ^ 8 := by unfold bits64; omega
theorem sgn_wf (n : Nat) : -9223372036854775808 ≤ sgn64 n ∧ sgn64 n < 9223372036854775808 := by
  unfold sgn64
  rw [IntKind.wrap_i64]
  omega
theorem bits_sgn {n : Nat} (h : n < 256 ^ 8) : bits64 (sgn64 n) = n := by
  unfold sgn64 bits64
  rw [IntKind.wrap_i64]
  omega
theorem valL_of {t : Key} {v : Int} (h : t.take 12 = slotH v) (hv : -9223372036854775808 ≤ v ∧ v < 9223372036854775808) : valL t = v := by
  unfold valL
  have : t.take 8 = (t.take 12).take 8 := by rw [List.take_take]; rfl
  rw [this, h, slotH_take, Fr.be_nb, Nat.mod_eq_of_lt (bits_lt v), sgn_bits hv]
theorem wholeL_of {t : Key} {v : Int} (h : t.take 12 = slotH v) (hv : numB v = true) : wholeL t = some v := by
  have hb := numB_iff.1 hv
  have e := valL_of h (by omega)
  unfold wholeL
  rw [e, if_pos ⟨hv, h⟩]
theorem wholeL_slot {v : Int} (hv : numB v = true) : wholeL (slotL v) = some v := wholeL_of (slotL_take v) hv
theorem wholeL_some {t : Key} {v : Int} (h : wholeL t = some v) : numB v = true ∧ t.take 12 = slotH v := by
  unfold wholeL at h
  split at h
  · rename_i hc
    cases h
    exact hc
  · cases h
theorem wholeL_take {t : Key} {n : Nat} (h : 12 ≤ n) : wholeL (t.take n) = wholeL t := by
  have e8 : (t.take n).take 8 = t.take 8 := by rw [List.take_take, Nat.min_eq_left (by omega)]
  have e12 : (t.take n).take 12 = t.take 12 := by rw [List.take_take, Nat.min_eq_left (by omega)]
  unfold wholeL valL
  rw [e8, e12]
/-- The value and the slot that is written next. -/
def pickM : Option Int → Option Int → Option (Int × Nat)
  | none, none => none
  | some x, none => some (x, 1)
  | none, some y => some (y, 0)
  | some x, some y => if x < y then some (y, 0) else some (x, 1)
/-! ### what the calls answer -/
def two1 : Key := slotL (-1) ++ slotL (-1)
theorem two1_length : two1.length = 128 := by unfold two1; rw [List.length_append, slotL_length]
def AD.beginM (A : AD) (k : Key) : Int × AD :=
  if (A.remove (k ++ dot)).1 ≠ 0 ∧ (A.remove (k ++ dot)).1 ≠ 5 then A.remove (k ++ dot)
  else if ((A.remove (k ++ dot)).2.write (k ++ dot) 0 two1).1 ≠ 0 then (A.remove (k ++ dot)).2.write (k ++ dot) 0 two1
  else if (((A.remove (k ++ dot)).2.write (k ++ dot) 0 two1).2.sync (k ++ dot)).1 ≠ 0 then ((A.remove (k ++ dot)).2.write (k ++ dot) 0 two1).2.sync (k ++ dot)
  else (((A.remove (k ++ dot)).2.write (k ++ dot) 0 two1).2.sync (k ++ dot)).2.rename (k ++ dot) k
abbrev MAns := Int × Option (Int × Nat) × AD
def pickT (t : Key) : Option (Int × Nat) := pickM (wholeL (t.take 64)) (wholeL (t.drop 64))
def AD.loadM (A : AD) (k : Key) : MAns :=
  if (A.read k 0 128).2 ≠ 0 then ((A.read k 0 128).2, none, A)
  else match pickT (A.read k 0 128).1 with
    | none => (190, none, A)
    | some m => if (A.sync k).1 ≠ 0 then ((A.sync k).1, none, (A.sync k).2) else (0, some m, (A.sync k).2)
def begA (r : Int × AD) : MAns := (r.1, if r.1 = 0 then some (-1, 1) else none, r.2)
def AD.openM (A : AD) (k : Key) : MAns :=
  if (A.size k).2 = 5 then begA (A.beginM k)
  else if (A.size k).2 ≠ 0 then ((A.size k).2, none, A)
  else if (A.size k).1 ≠ 128 then (190, none, A)
  else A.loadM k
def AD.raiseM (A : AD) (k : Key) (v : Int) (x : Nat) (n : Int) : Int × (Int × Nat) × AD :=
  if numB n = false then (1, (v, x), A)
  else if n ≤ v then (0, (v, x), A)
  else if (A.write k ((64 * x : Nat) : Int) (slotL n)).1 ≠ 0 then ((A.write k ((64 * x : Nat) : Int) (slotL n)).1, (v, x), (A.write k ((64 * x : Nat) : Int) (slotL n)).2)
  else if ((A.write k ((64 * x : Nat) : Int) (slotL n)).2.sync k).1 ≠ 0 then (((A.write k ((64 * x : Nat) : Int) (slotL n)).2.sync k).1, (v, x), ((A.write k ((64 * x : Nat) : Int) (slotL n)).2.sync k).2)
  else (0, (n, 1 - x), ((A.write k ((64 * x : Nat) : Int) (slotL n)).2.sync k).2)
end Go.Proofs.YtlkimfmilccanaaGreat
/-
  A slot's bytes: bytesOf, isNumber, other.
-/
namespace Go.Proofs.YtlkimfmilccanaaGreat
open Go.RowKit Go.Maps
set_option linter.unusedVariables false
set_option linter.unusedSimpArgs false
theorem isNumber_any (v : Int) (w : World) : Calls Tryz.prog 37 #[.int .i64 v] w fun e w' => e = .returned (.bool (numB v)) ∧ w' = w := by
  unfold numB
  by_cases h1 : -1 ≤ v
  · have d1 : decide (v ≥ -1) = true := decide_eq_true h1
    have d1' : decide (-1 ≤ v) = true := decide_eq_true h1
    rw [d1']
    obtain ⟨b, hb⟩ : ∃ b, decide (v ≤ 281474976710655) = b := ⟨_, rfl⟩
    rw [hb]
    clear h1
    go_enter Tryz.func37, Tryz.ntmps37
    go_wp2
    go_ret
    exact ⟨by simp, rfl⟩
  · have d1 : decide (v ≥ -1) = false := decide_eq_false h1
    have d1' : decide (-1 ≤ v) = false := decide_eq_false h1
    rw [d1']
    clear h1
    go_enter Tryz.func37, Tryz.ntmps37
    go_wp2
    go_ret
    exact ⟨by simp, rfl⟩
theorem other_any (k : Int) (w : World) (hk : 0 ≤ k ∧ k ≤ 1) : Calls Tryz.prog 40 #[.int .i64 k] w fun e w' => e = .returned (.int .i64 (1 - k)) ∧ w' = w := by
  have h1 : wrap64 (1 - k) = 1 - k := by unfold wrap64; omega
  go_enter Tryz.func40, Tryz.ntmps40
  go_wp2
  go_ret
  exact ⟨by simp, rfl⟩
theorem wrap_bits (v : Int) : IntKind.u64.wrap v = ((bits64 v : Nat) : Int) := by
  unfold bits64
  simp [IntKind.wrap, IntKind.bits, IntKind.signed]
  omega
set_option maxRecDepth 5000 in
set_option maxHeartbeats 2000000 in
theorem bytesOfM_any (v : Int) (w : World) : Calls Tryz.prog 38 #[.int .i64 v] w fun e w' => e = .returned (.string ⟨(slotL v).toArray⟩) ∧ Below w.heap.size w w' := by
  obtain ⟨m, hm⟩ : ∃ m, bits64 v = m := ⟨_, rfl⟩
  have HW : Hid (IntKind.u64.wrap v = ((m : Nat) : Int)) := by show _ = _; rw [← hm]; exact wrap_bits v
  obtain ⟨R, hR⟩ : ∃ R : ByteArray, (⟨(slotL v).toArray⟩ : ByteArray) = R := ⟨_, rfl⟩
  have HR : Hid (R = ⟨(Fr.nb m 8 ++ Fr.nb (crcN (Fr.nb m 8)) 4 ++ List.replicate 52 0).toArray⟩) := by
    show _ = _
    rw [← hR]
    unfold slotL slotH
    rw [hm]
  rw [hR]
  clear hR hm
  go_enter Tryz.func38, Tryz.ntmps38
  go_wp2_with fail
  refine (Fr.wNew _).mono ?_
  rintro e w1 ⟨rfl, h1, hb1, hs1⟩
  have HS1 := hide hs1
  clear hs1
  go_wp2_with fail
  refine (Fr.wI64 v m HW.out _ _ _ _ h1 (fun l e => by cases e; simp)).mono ?_
  rintro e w2 ⟨rfl, v2, h2, hM2⟩
  have H2 : Hid (Fr.CW w2 w.heap.size v2 (some (Fr.nb m 8))) := by
    have := h2
    simp only [Option.map_some, List.nil_append] at this
    exact this
  go_wp2_with fail
  obtain ⟨Hd, hHd⟩ : ∃ S : ByteArray, S = ⟨(Fr.nb m 8).toArray⟩ := ⟨_, rfl⟩
  have HHd : Hid (Hd.data.toList = Fr.nb m 8) := by show _ = _; rw [hHd]
  refine (Fr.wOut_l _ _ _ _ H2.out Hd hHd).mono ?_
  rintro e w3 ⟨rfl, hb3⟩
  have h3 := H2.out.below hb3
  obtain ⟨Z, hZ⟩ : ∃ Z : Int, Z = ((Fr.C.on 0#32 Hd.data.toList).toNat : Int) := ⟨_, rfl⟩
  have HZ := hide hZ
  have HZ2 : Hid (Z = (crcN (Fr.nb m 8) : Int)) := by show _ = _; rw [hZ, HHd.out]; rfl
  have HHs : Hid (Hd.size ≤ maxLen) := by
    show _ ≤ _
    rw [← str_len, HHd.out, Fr.nb_length]; unfold maxLen; omega
  clear hHd hZ
  go_wp2_with fail
  refine (Fr.crcSum_any Hd _ HHs.out Z HZ.out).mono ?_
  rintro e w4 ⟨rfl, hb4⟩
  have h4 := h3.below hb4
  go_wp2_with fail
  refine (Fr.wU32 Z _ HZ2.out _ _ _ _ h4 (fun l e => by cases e; simp [Fr.nb_length])).mono ?_
  rintro e w5 ⟨rfl, v5, h5, hM5⟩
  go_wp2_with fail
  refine (Fr.repeat_any 52 _ (by decide) _ rfl).mono ?_
  rintro e w6 ⟨rfl, hb6⟩
  have h6 := h5.below hb6
  obtain ⟨F, hF⟩ : ∃ F : ByteArray, (⟨(List.replicate 52 0).toArray⟩ : ByteArray) = F := ⟨_, rfl⟩
  rw [hF]
  have HFl : Hid (F.data.toList = List.replicate 52 0) := by show _ = _; rw [← hF]
  have HFs : Hid (F.size = 52) := by show _ = _; rw [← str_len, HFl.out, List.length_replicate]
  clear hF
  go_wp2_with fail
  refine (Fr.wRaw F _ _ _ _ h6 (fun l e => by have := HFs.out; cases e; simp [Fr.nb_length]; omega)).mono ?_
  rintro e w7 ⟨rfl, v7, h7, hM7⟩
  have H7 : Hid (Fr.CW w7 w.heap.size v7 (some (Fr.nb m 8 ++ Fr.nb (crcN (Fr.nb m 8)) 4 ++ List.replicate 52 0))) := by
    have := h7
    rw [HFl.out] at this
    simp only [Option.map_some, List.nil_append] at this
    exact this
  go_wp2_with fail
  refine (Fr.wOut_l _ _ _ _ H7.out R HR.out).mono ?_
  rintro e w8 ⟨rfl, hb8⟩
  go_wp2
  go_ret
  have q2 : w.heap.size ≤ w2.heap.size := Nat.le_trans hb1.size hM2.size
  have q3 : w.heap.size ≤ w3.heap.size := Nat.le_trans q2 hb3.size
  have q4 : w.heap.size ≤ w4.heap.size := Nat.le_trans q3 hb4.size
  have q5 : w.heap.size ≤ w5.heap.size := Nat.le_trans q4 hM5.size
  have q6 : w.heap.size ≤ w6.heap.size := Nat.le_trans q5 hb6.size
  have q7 : w.heap.size ≤ w7.heap.size := Nat.le_trans q6 hM7.size
  have own : ∀ {wx : World} {vx : Value} {sx : Option (List UInt8)}, Fr.CW wx w.heap.size vx sx → ∀ k, vx.ownBlock = some k → w.heap.size ≤ k := fun hx k hk => by have := (hx.own k hk).1; omega
  exact ⟨rfl, ((((((hb1.trans (hM2.below (Nat.le_refl _) hb1.size (own h1))).trans (hb3.mono q2)).trans (hb4.mono q3)).trans (hM5.below (Nat.le_refl _) q4 (own h4))).trans (hb6.mono q5)).trans (hM7.below (Nat.le_refl _) q6 (own h6))).trans (hb8.mono q7)⟩
end Go.Proofs.YtlkimfmilccanaaGreat
