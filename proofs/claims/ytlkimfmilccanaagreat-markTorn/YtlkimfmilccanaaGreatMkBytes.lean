import Derived.Test.YtlkimfmilccanaaGreatMkSafeO
import Derived.Test.YtlkimfmilccanaaGreatMkSafeM
import Derived.Test.YtlkimfmilccanaaGreatFFrame
import Derived.Test.YtlkimfmilccanaaGreatKLoad
/-
  MARKTURNS, PLAIN: a disk that has no room but for one mark.
-/
namespace Go.Proofs.YtlkimfmilccanaaGreat
open Go.RowKit Go.Maps
set_option linter.unusedVariables false
def tL : Key := [109]
def tAF (a0 a1 : Int) : AF := ⟨slotL a0 ++ slotL a1, slotL a0 ++ slotL a1, fun _ => false⟩
def TD (a0 a1 : Int) : AD := ⟨128, [(tL, tAF a0 a1)], kP0⟩
theorem kp0_calm : Calm kP0 := ⟨rfl, rfl, rfl⟩
theorem one_get (k : Key) (F : AF) : fget [(k, F)] k = some F := by rw [fget_cons, if_pos rfl]
theorem tnew_write {d : Key} (hn : nameOk d = true) : (AD.fresh 128).write d 0 two1 = (0, ⟨128, [(d, AF.new.write 0 two1)], kP0⟩) := by
  have hfl : (AD.fresh 128).flen d = 0 := rfl
  have hf : (AD.fresh 128).fits d 0 two1.length = 0 := by
    rw [two1_length, fits_rest hn (by rw [hfl]; omega), hfl, if_neg (by omega), if_neg (by simp [AD.fresh]), if_neg (by
      show ¬ ((fused ([] : FList) : Nat) : Int) - 0 + max 0 (0 + ((128 : Nat) : Int)) > 128
      rw [show fused ([] : FList) = 0 from rfl]; omega)]
  unfold AD.write
  rw [if_neg (by simp [AD.fresh]), hf, if_neg (by decide)]
  have hc : (AD.fresh 128).pow.count 1 = (0, kP0) := kcount 1
  rw [hc, if_neg (by decide)]
  rfl
theorem tone_sync {c : Int} {d : Key} {F : AF} : (⟨c, [(d, F)], kP0⟩ : AD).sync d = (0, ⟨c, [(d, F.sync)], kP0⟩) := by
  have hs : fset [(d, F)] d F.sync = [(d, F.sync)] := by rw [fset_cons, if_pos rfl]; rfl
  have hc : kP0.count 2 = (0, kP0) := kcount 2
  unfold AD.sync
  rw [if_neg (by simp [kP0])]
  simp only [one_get, hc, hs]
  rw [if_neg (by decide)]
theorem tone_rename {c : Int} {d k : Key} {F : AF} (hn : nameOk k = true) : (⟨c, [(d, F)], kP0⟩ : AD).rename d k = (0, ⟨c, [(k, F)], kP0⟩) := by
  have hs : fput (fdel [(d, F)] d) k F = [(k, F)] := by
    have : fdel [(d, F)] d = [] := by simp [fdel]
    rw [this]; rfl
  unfold AD.rename
  rw [if_neg (by simp [kP0])]
  simp only [one_get, hs]
  rw [if_neg (by rw [hn]; simp)]
theorem td_open0 : (AD.fresh 128).openM tL = (0, some (-1, 1), TD (-1) (-1)) := by
  have r1 : (AD.fresh 128).remove (tL ++ dot) = (5, AD.fresh 128) := rfl
  have r2 := tnew_write (d := tL ++ dot) (by decide)
  have r3 := tone_sync (c := 128) (d := tL ++ dot) (F := AF.new.write 0 two1)
  have r4 := tone_rename (c := 128) (d := tL ++ dot) (k := tL) (F := (AF.new.write 0 two1).sync) (by decide)
  have e : (AF.new.write 0 two1).sync = tAF (-1) (-1) := by unfold AF.sync; rw [new_seen]; rfl
  have hb : (AD.fresh 128).beginM tL = (0, TD (-1) (-1)) := by
    unfold AD.beginM
    rw [r1, if_neg (by simp)]
    simp only [r2, r3, r4]
    rw [if_neg (by decide), if_neg (by decide), e]
    rfl
  unfold AD.openM
  rw [if_pos (by rfl), hb]
  rfl
section
variable {a0 a1 v n : Int}
theorem tlen (a0 a1 : Int) : (slotL a0 ++ slotL a1).length = 128 := by rw [List.length_append, slotL_length, slotL_length]
theorem td_fits (x : Nat) (hx : x ≤ 1) : (TD a0 a1).fits tL ((64 * x : Nat) : Int) 64 = 0 := by
  have hg : fget (TD a0 a1).fs tL = some (tAF a0 a1) := one_get _ _
  have hfl : (TD a0 a1).flen tL = 128 := by rw [flen_some hg]; show ((slotL a0 ++ slotL a1).length : Int) = 128; rw [tlen]; rfl
  have hu : fused (TD a0 a1).fs = 128 := by
    show fused [(tL, tAF a0 a1)] = 128
    rw [fused_cons]
    show (slotL a0 ++ slotL a1).length + 0 = 128
    rw [tlen]
  rw [fits_rest (by decide) (by rw [hfl]; omega), hfl, hg, if_neg (by omega), if_neg (by simp), if_neg (by rw [hu]; show ¬ ((128 : Nat) : Int) - 128 + max 128 _ > 128; omega)]
theorem td_write (x : Nat) (hx : x ≤ 1) : (TD a0 a1).write tL ((64 * x : Nat) : Int) (slotL n) = (0, ⟨128, [(tL, (tAF a0 a1).write (64 * x) (slotL n))], kP0⟩) := by
  have hg : fget (TD a0 a1).fs tL = some (tAF a0 a1) := one_get _ _
  have hs : fset (TD a0 a1).fs tL ((tAF a0 a1).write (64 * x) (slotL n)) = [(tL, (tAF a0 a1).write (64 * x) (slotL n))] := by
    show fset [(tL, tAF a0 a1)] tL _ = _
    rw [fset_cons, if_pos rfl]; rfl
  have hf : (TD a0 a1).fits tL ((64 * x : Nat) : Int) ((slotL n).length : Int) = 0 := by rw [slotL_length]; exact td_fits x hx
  have hc : (TD a0 a1).pow.count 1 = (0, kP0) := kcount 1
  unfold AD.write
  rw [if_neg (by simp [TD, kP0]), hf, if_neg (by decide), hc, if_neg (by decide), hg]
  simp only [Int.toNat_natCast, hs]
  rfl
theorem td_sync0 : ((tAF a0 a1).write (64 * 0) (slotL n)).sync = tAF n a1 := by
  rw [AF.write_slot]
  unfold AF.sync tAF
  simp only [Nat.mul_zero, List.take_zero, List.nil_append, Nat.zero_add]
  rw [List.drop_left' (slotL_length a0)]
theorem td_sync1 : ((tAF a0 a1).write (64 * 1) (slotL n)).sync = tAF a0 n := by
  rw [AF.write_slot]
  unfold AF.sync tAF
  simp only [Nat.mul_one]
  rw [List.take_left' (slotL_length a0), List.drop_of_length_le (by rw [tlen]; exact Nat.le_refl _), List.append_nil]
theorem td_raise1 (hn : numB n = true) (hv : v < n) : (TD a0 a1).raiseM tL v 1 n = (0, (n, 0), TD a0 n) := by
  unfold AD.raiseM
  rw [if_neg (by rw [hn]; simp), if_neg (by omega), td_write 1 (by omega)]
  simp only [tone_sync, td_sync1]
  rw [if_neg (by decide), if_neg (by decide)]
  rfl
theorem td_raise0 (hn : numB n = true) (hv : v < n) : (TD a0 a1).raiseM tL v 0 n = (0, (n, 1), TD n a1) := by
  unfold AD.raiseM
  rw [if_neg (by rw [hn]; simp), if_neg (by omega), td_write 0 (by omega)]
  simp only [tone_sync, td_sync0]
  rw [if_neg (by decide), if_neg (by decide)]
  rfl
theorem raise_same {A : AD} {k : Key} {x : Nat} (hn : numB n = true) (hv : n ≤ v) : A.raiseM k v x n = (0, (v, x), A) := by
  unfold AD.raiseM
  rw [if_neg (by rw [hn]; simp), if_pos hv]
theorem td_read : (TD a0 a1).read tL 0 200 = (slotL a0 ++ slotL a1, 0) := by
  have hg : fget (TD a0 a1).fs tL = some (tAF a0 a1) := one_get _ _
  unfold AD.read
  rw [if_neg (by simp [TD, kP0]), hg]
  simp only
  rw [if_neg (by decide)]
  simp only [Int.toNat_zero, List.drop_zero]
  rw [show (200 : Int).toNat = 200 from rfl]
  show ((slotL a0 ++ slotL a1).take 200, _) = _
  rw [List.take_of_length_le (by rw [tlen]; omega)]
theorem td_dirty : (TD a0 a1).dirty tL = [] := by
  have hg : fget (TD a0 a1).fs tL = some (tAF a0 a1) := one_get _ _
  unfold AD.dirty
  rw [if_neg (by simp [TD, kP0]), hg]
  simp only
  unfold AF.dirtyL
  rw [List.filter_eq_nil_iff]
  intro s _ h
  exact absurd h (by simp [tAF])
theorem td_open (h0 : numB a0 = true) (h1 : numB a1 = true) : (TD a0 a1).openM tL = (0, some (if a0 < a1 then (a1, 0) else (a0, 1)), TD a0 a1) := by
  have hg : fget (TD a0 a1).fs tL = some (tAF a0 a1) := one_get _ _
  have hsz : (TD a0 a1).size tL = (128, 0) := by
    unfold AD.size
    rw [if_neg (by simp [TD, kP0]), hg]
    simp only
    show (((slotL a0 ++ slotL a1).length : Int), _) = _
    rw [tlen]; rfl
  have hrd : (TD a0 a1).read tL 0 128 = (slotL a0 ++ slotL a1, 0) := by
    unfold AD.read
    rw [if_neg (by simp [TD, kP0]), hg]
    simp only
    rw [if_neg (by decide)]
    simp only [Int.toNat_zero, List.drop_zero]
    rw [show (128 : Int).toNat = 128 from rfl]
    show ((slotL a0 ++ slotL a1).take 128, _) = _
    rw [List.take_of_length_le (by rw [tlen]; omega)]
  have hp : pickT (slotL a0 ++ slotL a1) = some (if a0 < a1 then (a1, 0) else (a0, 1)) := by
    unfold pickT
    rw [List.take_left' (slotL_length a0), List.drop_left' (slotL_length a0), wholeL_slot h0, wholeL_slot h1]
    show (if a0 < a1 then some (a1, 0) else some (a0, 1)) = _
    split <;> rfl
  have hy : (TD a0 a1).sync tL = (0, TD a0 a1) := tone_sync
  unfold AD.openM AD.loadM
  rw [hsz, hrd]
  simp only
  rw [if_neg (by decide), if_neg (by decide), if_neg (by decide), if_neg (by decide), hp, hy]
  simp only
  rw [if_neg (by decide)]
end
end Go.Proofs.YtlkimfmilccanaaGreat
/-
  A slot's bytes: bytesOf, isNumber, other.
-/
namespace Go.Proofs.YtlkimfmilccanaaGreat
open Go.RowKit Go.Maps
set_option linter.unusedVariables false
set_option linter.unusedSimpArgs false
theorem isNumber_any (v : Int) (w : World) : Calls Tryz.prog 37 #[.int .i64 v] w fun e w' => e = .returned (.bool (numB v)) ∧ w' = w := by
  unfold numB
  by_cases h1 : -1 ≤ v
  · have d1 : decide (v ≥ -1) = true := decide_eq_true h1
    have d1' : decide (-1 ≤ v) = true := decide_eq_true h1
    rw [d1']
    obtain ⟨b, hb⟩ : ∃ b, decide (v ≤ 281474976710655) = b := ⟨_, rfl⟩
    rw [hb]
    clear h1
    go_enter Tryz.func37, Tryz.ntmps37
    go_wp2
    go_ret
    exact ⟨by simp, rfl⟩
  · have d1 : decide (v ≥ -1) = false := decide_eq_false h1
    have d1' : decide (-1 ≤ v) = false := decide_eq_false h1
    rw [d1']
    clear h1
    go_enter Tryz.func37, Tryz.ntmps37
    go_wp2
    go_ret
    exact ⟨by simp, rfl⟩
theorem other_any (k : Int) (w : World) (hk : 0 ≤ k ∧ k ≤ 1) : Calls Tryz.prog 40 #[.int .i64 k] w fun e w' => e = .returned (.int .i64 (1 - k)) ∧ w' = w := by
  have h1 : wrap64 (1 - k) = 1 - k := by unfold wrap64; omega
  go_enter Tryz.func40, Tryz.ntmps40
  go_wp2
  go_ret
  exact ⟨by simp, rfl⟩
theorem wrap_bits (v : Int) : IntKind.u64.wrap v = ((bits64 v : Nat) : Int) := by
  unfold bits64
  simp [IntKind.wrap, IntKind.bits, IntKind.signed]
  omega
set_option maxRecDepth 5000 in
set_option maxHeartbeats 2000000 in
theorem bytesOfM_any (v : Int) (w : World) : Calls Tryz.prog 38 #[.int .i64 v] w fun e w' => e = .returned (.string ⟨(slotL v).toArray⟩) ∧ Below w.heap.size w w' := by
  obtain ⟨m, hm⟩ : ∃ m, bits64 v = m := ⟨_, rfl⟩
  have HW : Hid (IntKind.u64.wrap v = ((m : Nat) : Int)) := by show _ = _; rw [← hm]; exact wrap_bits v
  obtain ⟨R, hR⟩ : ∃ R : ByteArray, (⟨(slotL v).toArray⟩ : ByteArray) = R := ⟨_, rfl⟩
  have HR : Hid (R = ⟨(Fr.nb m 8 ++ Fr.nb (crcN (Fr.nb m 8)) 4 ++ List.replicate 52 0).toArray⟩) := by
    show _ = _
    rw [← hR]
    unfold slotL slotH
    rw [hm]
  rw [hR]
  clear hR hm
  go_enter Tryz.func38, Tryz.ntmps38
  go_wp2_with fail
  refine (Fr.wNew _).mono ?_
  rintro e w1 ⟨rfl, h1, hb1, hs1⟩
  have HS1 := hide hs1
  clear hs1
  go_wp2_with fail
  refine (Fr.wI64 v m HW.out _ _ _ _ h1 (fun l e => by cases e; simp)).mono ?_
  rintro e w2 ⟨rfl, v2, h2, hM2⟩
  have H2 : Hid (Fr.CW w2 w.heap.size v2 (some (Fr.nb m 8))) := by
    have := h2
    simp only [Option.map_some, List.nil_append] at this
    exact this
  go_wp2_with fail
  obtain ⟨Hd, hHd⟩ : ∃ S : ByteArray, S = ⟨(Fr.nb m 8).toArray⟩ := ⟨_, rfl⟩
  have HHd : Hid (Hd.data.toList = Fr.nb m 8) := by show _ = _; rw [hHd]
  refine (Fr.wOut_l _ _ _ _ H2.out Hd hHd).mono ?_
  rintro e w3 ⟨rfl, hb3⟩
  have h3 := H2.out.below hb3
  obtain ⟨Z, hZ⟩ : ∃ Z : Int, Z = ((Fr.C.on 0#32 Hd.data.toList).toNat : Int) := ⟨_, rfl⟩
  have HZ := hide hZ
  have HZ2 : Hid (Z = (crcN (Fr.nb m 8) : Int)) := by show _ = _; rw [hZ, HHd.out]; rfl
  have HHs : Hid (Hd.size ≤ maxLen) := by
    show _ ≤ _
    rw [← str_len, HHd.out, Fr.nb_length]; unfold maxLen; omega
  clear hHd hZ
  go_wp2_with fail
  refine (Fr.crcSum_any Hd _ HHs.out Z HZ.out).mono ?_
  rintro e w4 ⟨rfl, hb4⟩
  have h4 := h3.below hb4
  go_wp2_with fail
  refine (Fr.wU32 Z _ HZ2.out _ _ _ _ h4 (fun l e => by cases e; simp [Fr.nb_length])).mono ?_
  rintro e w5 ⟨rfl, v5, h5, hM5⟩
  go_wp2_with fail
  refine (Fr.repeat_any 52 _ (by decide) _ rfl).mono ?_
  rintro e w6 ⟨rfl, hb6⟩
  have h6 := h5.below hb6
  obtain ⟨F, hF⟩ : ∃ F : ByteArray, (⟨(List.replicate 52 0).toArray⟩ : ByteArray) = F := ⟨_, rfl⟩
  rw [hF]
  have HFl : Hid (F.data.toList = List.replicate 52 0) := by show _ = _; rw [← hF]
  have HFs : Hid (F.size = 52) := by show _ = _; rw [← str_len, HFl.out, List.length_replicate]
  clear hF
  go_wp2_with fail
  refine (Fr.wRaw F _ _ _ _ h6 (fun l e => by have := HFs.out; cases e; simp [Fr.nb_length]; omega)).mono ?_
  rintro e w7 ⟨rfl, v7, h7, hM7⟩
  have H7 : Hid (Fr.CW w7 w.heap.size v7 (some (Fr.nb m 8 ++ Fr.nb (crcN (Fr.nb m 8)) 4 ++ List.replicate 52 0))) := by
    have := h7
    rw [HFl.out] at this
    simp only [Option.map_some, List.nil_append] at this
    exact this
  go_wp2_with fail
  refine (Fr.wOut_l _ _ _ _ H7.out R HR.out).mono ?_
  rintro e w8 ⟨rfl, hb8⟩
  go_wp2
  go_ret
  have q2 : w.heap.size ≤ w2.heap.size := Nat.le_trans hb1.size hM2.size
  have q3 : w.heap.size ≤ w3.heap.size := Nat.le_trans q2 hb3.size
  have q4 : w.heap.size ≤ w4.heap.size := Nat.le_trans q3 hb4.size
  have q5 : w.heap.size ≤ w5.heap.size := Nat.le_trans q4 hM5.size
  have q6 : w.heap.size ≤ w6.heap.size := Nat.le_trans q5 hb6.size
  have q7 : w.heap.size ≤ w7.heap.size := Nat.le_trans q6 hM7.size
  have own : ∀ {wx : World} {vx : Value} {sx : Option (List UInt8)}, Fr.CW wx w.heap.size vx sx → ∀ k, vx.ownBlock = some k → w.heap.size ≤ k := fun hx k hk => by have := (hx.own k hk).1; omega
  exact ⟨rfl, ((((((hb1.trans (hM2.below (Nat.le_refl _) hb1.size (own h1))).trans (hb3.mono q2)).trans (hb4.mono q3)).trans (hM5.below (Nat.le_refl _) q4 (own h4))).trans (hb6.mono q5)).trans (hM7.below (Nat.le_refl _) q6 (own h6))).trans (hb8.mono q7)⟩
end Go.Proofs.YtlkimfmilccanaaGreat
