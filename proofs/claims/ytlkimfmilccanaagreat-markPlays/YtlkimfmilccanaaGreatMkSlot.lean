import Derived.Test.YtlkimfmilccanaaGreatMkSafeO
import Derived.Test.YtlkimfmilccanaaGreatMkSafeN
import Derived.Test.YtlkimfmilccanaaGreatFFrame
import Derived.Test.YtlkimfmilccanaaGreatKLoad
import Derived.Test.YtlkimfmilccanaaGreatFSyncA
/-
  MARKTURNS, PLAIN: a disk that has no room but for one mark.
-/
namespace Go.Proofs.YtlkimfmilccanaaGreat
open Go.RowKit Go.Maps
set_option linter.unusedVariables false
def tL : Key := [109]
def tAF (a0 a1 : Int) : AF := ⟨slotL a0 ++ slotL a1, slotL a0 ++ slotL a1, fun _ => false⟩
def TD (a0 a1 : Int) : AD := ⟨128, [(tL, tAF a0 a1)], kP0⟩
theorem kp0_calm : Calm kP0 := ⟨rfl, rfl, rfl⟩
theorem one_get (k : Key) (F : AF) : fget [(k, F)] k = some F := by rw [fget_cons, if_pos rfl]
theorem tnew_write {d : Key} (hn : nameOk d = true) : (AD.fresh 128).write d 0 two1 = (0, ⟨128, [(d, AF.new.write 0 two1)], kP0⟩) := by
  have hfl : (AD.fresh 128).flen d = 0 := rfl
  have hf : (AD.fresh 128).fits d 0 two1.length = 0 := by
    rw [two1_length, fits_rest hn (by rw [hfl]; omega), hfl, if_neg (by omega), if_neg (by simp [AD.fresh]), if_neg (by
      show ¬ ((fused ([] : FList) : Nat) : Int) - 0 + max 0 (0 + ((128 : Nat) : Int)) > 128
      rw [show fused ([] : FList) = 0 from rfl]; omega)]
  unfold AD.write
  rw [if_neg (by simp [AD.fresh]), hf, if_neg (by decide)]
  have hc : (AD.fresh 128).pow.count 1 = (0, kP0) := kcount 1
  rw [hc, if_neg (by decide)]
  rfl
theorem tone_sync {c : Int} {d : Key} {F : AF} : (⟨c, [(d, F)], kP0⟩ : AD).sync d = (0, ⟨c, [(d, F.sync)], kP0⟩) := by
  have hs : fset [(d, F)] d F.sync = [(d, F.sync)] := by rw [fset_cons, if_pos rfl]; rfl
  have hc : kP0.count 2 = (0, kP0) := kcount 2
  unfold AD.sync
  rw [if_neg (by simp [kP0])]
  simp only [one_get, hc, hs]
  rw [if_neg (by decide)]
theorem tone_rename {c : Int} {d k : Key} {F : AF} (hn : nameOk k = true) : (⟨c, [(d, F)], kP0⟩ : AD).rename d k = (0, ⟨c, [(k, F)], kP0⟩) := by
  have hs : fput (fdel [(d, F)] d) k F = [(k, F)] := by
    have : fdel [(d, F)] d = [] := by simp [fdel]
    rw [this]; rfl
  unfold AD.rename
  rw [if_neg (by simp [kP0])]
  simp only [one_get, hs]
  rw [if_neg (by rw [hn]; simp)]
theorem td_open0 : (AD.fresh 128).openM tL = (0, some (-1, 1), TD (-1) (-1)) := by
  have r1 : (AD.fresh 128).remove (tL ++ dot) = (5, AD.fresh 128) := rfl
  have r2 := tnew_write (d := tL ++ dot) (by decide)
  have r3 := tone_sync (c := 128) (d := tL ++ dot) (F := AF.new.write 0 two1)
  have r4 := tone_rename (c := 128) (d := tL ++ dot) (k := tL) (F := (AF.new.write 0 two1).sync) (by decide)
  have e : (AF.new.write 0 two1).sync = tAF (-1) (-1) := by unfold AF.sync; rw [new_seen]; rfl
  have hb : (AD.fresh 128).beginM tL = (0, TD (-1) (-1)) := by
    unfold AD.beginM
    rw [r1, if_neg (by simp)]
    simp only [r2, r3, r4]
    rw [if_neg (by decide), if_neg (by decide), e]
    rfl
  unfold AD.openM
  rw [if_pos (by rfl), hb]
  rfl
section
variable {a0 a1 v n : Int}
theorem tlen (a0 a1 : Int) : (slotL a0 ++ slotL a1).length = 128 := by rw [List.length_append, slotL_length, slotL_length]
theorem td_fits (x : Nat) (hx : x ≤ 1) : (TD a0 a1).fits tL ((64 * x : Nat) : Int) 64 = 0 := by
  have hg : fget (TD a0 a1).fs tL = some (tAF a0 a1) := one_get _ _
  have hfl : (TD a0 a1).flen tL = 128 := by rw [flen_some hg]; show ((slotL a0 ++ slotL a1).length : Int) = 128; rw [tlen]; rfl
  have hu : fused (TD a0 a1).fs = 128 := by
    show fused [(tL, tAF a0 a1)] = 128
    rw [fused_cons]
    show (slotL a0 ++ slotL a1).length + 0 = 128
    rw [tlen]
  rw [fits_rest (by decide) (by rw [hfl]; omega), hfl, hg, if_neg (by omega), if_neg (by simp), if_neg (by rw [hu]; show ¬ ((128 : Nat) : Int) - 128 + max 128 _ > 128; omega)]
theorem td_write (x : Nat) (hx : x ≤ 1) : (TD a0 a1).write tL ((64 * x : Nat) : Int) (slotL n) = (0, ⟨128, [(tL, (tAF a0 a1).write (64 * x) (slotL n))], kP0⟩) := by
  have hg : fget (TD a0 a1).fs tL = some (tAF a0 a1) := one_get _ _
  have hs : fset (TD a0 a1).fs tL ((tAF a0 a1).write (64 * x) (slotL n)) = [(tL, (tAF a0 a1).write (64 * x) (slotL n))] := by
    show fset [(tL, tAF a0 a1)] tL _ = _
    rw [fset_cons, if_pos rfl]; rfl
  have hf : (TD a0 a1).fits tL ((64 * x : Nat) : Int) ((slotL n).length : Int) = 0 := by rw [slotL_length]; exact td_fits x hx
  have hc : (TD a0 a1).pow.count 1 = (0, kP0) := kcount 1
  unfold AD.write
  rw [if_neg (by simp [TD, kP0]), hf, if_neg (by decide), hc, if_neg (by decide), hg]
  simp only [Int.toNat_natCast, hs]
  rfl
theorem td_sync0 : ((tAF a0 a1).write (64 * 0) (slotL n)).sync = tAF n a1 := by
  rw [AF.write_slot]
  unfold AF.sync tAF
  simp only [Nat.mul_zero, List.take_zero, List.nil_append, Nat.zero_add]
  rw [List.drop_left' (slotL_length a0)]
theorem td_sync1 : ((tAF a0 a1).write (64 * 1) (slotL n)).sync = tAF a0 n := by
  rw [AF.write_slot]
  unfold AF.sync tAF
  simp only [Nat.mul_one]
  rw [List.take_left' (slotL_length a0), List.drop_of_length_le (by rw [tlen]; exact Nat.le_refl _), List.append_nil]
theorem td_raise1 (hn : numB n = true) (hv : v < n) : (TD a0 a1).raiseM tL v 1 n = (0, (n, 0), TD a0 n) := by
  unfold AD.raiseM
  rw [if_neg (by rw [hn]; simp), if_neg (by omega), td_write 1 (by omega)]
  simp only [tone_sync, td_sync1]
  rw [if_neg (by decide), if_neg (by decide)]
  rfl
theorem td_raise0 (hn : numB n = true) (hv : v < n) : (TD a0 a1).raiseM tL v 0 n = (0, (n, 1), TD n a1) := by
  unfold AD.raiseM
  rw [if_neg (by rw [hn]; simp), if_neg (by omega), td_write 0 (by omega)]
  simp only [tone_sync, td_sync0]
  rw [if_neg (by decide), if_neg (by decide)]
  rfl
theorem raise_same {A : AD} {k : Key} {x : Nat} (hn : numB n = true) (hv : n ≤ v) : A.raiseM k v x n = (0, (v, x), A) := by
  unfold AD.raiseM
  rw [if_neg (by rw [hn]; simp), if_pos hv]
theorem td_read : (TD a0 a1).read tL 0 200 = (slotL a0 ++ slotL a1, 0) := by
  have hg : fget (TD a0 a1).fs tL = some (tAF a0 a1) := one_get _ _
  unfold AD.read
  rw [if_neg (by simp [TD, kP0]), hg]
  simp only
  rw [if_neg (by decide)]
  simp only [Int.toNat_zero, List.drop_zero]
  rw [show (200 : Int).toNat = 200 from rfl]
  show ((slotL a0 ++ slotL a1).take 200, _) = _
  rw [List.take_of_length_le (by rw [tlen]; omega)]
theorem td_dirty : (TD a0 a1).dirty tL = [] := by
  have hg : fget (TD a0 a1).fs tL = some (tAF a0 a1) := one_get _ _
  unfold AD.dirty
  rw [if_neg (by simp [TD, kP0]), hg]
  simp only
  unfold AF.dirtyL
  rw [List.filter_eq_nil_iff]
  intro s _ h
  exact absurd h (by simp [tAF])
theorem td_open (h0 : numB a0 = true) (h1 : numB a1 = true) : (TD a0 a1).openM tL = (0, some (if a0 < a1 then (a1, 0) else (a0, 1)), TD a0 a1) := by
  have hg : fget (TD a0 a1).fs tL = some (tAF a0 a1) := one_get _ _
  have hsz : (TD a0 a1).size tL = (128, 0) := by
    unfold AD.size
    rw [if_neg (by simp [TD, kP0]), hg]
    simp only
    show (((slotL a0 ++ slotL a1).length : Int), _) = _
    rw [tlen]; rfl
  have hrd : (TD a0 a1).read tL 0 128 = (slotL a0 ++ slotL a1, 0) := by
    unfold AD.read
    rw [if_neg (by simp [TD, kP0]), hg]
    simp only
    rw [if_neg (by decide)]
    simp only [Int.toNat_zero, List.drop_zero]
    rw [show (128 : Int).toNat = 128 from rfl]
    show ((slotL a0 ++ slotL a1).take 128, _) = _
    rw [List.take_of_length_le (by rw [tlen]; omega)]
  have hp : pickT (slotL a0 ++ slotL a1) = some (if a0 < a1 then (a1, 0) else (a0, 1)) := by
    unfold pickT
    rw [List.take_left' (slotL_length a0), List.drop_left' (slotL_length a0), wholeL_slot h0, wholeL_slot h1]
    show (if a0 < a1 then some (a1, 0) else some (a0, 1)) = _
    split <;> rfl
  have hy : (TD a0 a1).sync tL = (0, TD a0 a1) := tone_sync
  unfold AD.openM AD.loadM
  rw [hsz, hrd]
  simp only
  rw [if_neg (by decide), if_neg (by decide), if_neg (by decide), if_neg (by decide), hp, hy]
  simp only
  rw [if_neg (by decide)]
end
end Go.Proofs.YtlkimfmilccanaaGreat
/-
  A slot's bytes: bytesOf, isNumber, other.
-/
namespace Go.Proofs.YtlkimfmilccanaaGreat
open Go.RowKit Go.Maps
set_option linter.unusedVariables false
set_option linter.unusedSimpArgs false
theorem isNumber_any (v : Int) (w : World) : Calls Tryz.prog 37 #[.int .i64 v] w fun e w' => e = .returned (.bool (numB v)) ∧ w' = w := by
  unfold numB
  by_cases h1 : -1 ≤ v
  · have d1 : decide (v ≥ -1) = true := decide_eq_true h1
    have d1' : decide (-1 ≤ v) = true := decide_eq_true h1
    rw [d1']
    obtain ⟨b, hb⟩ : ∃ b, decide (v ≤ 281474976710655) = b := ⟨_, rfl⟩
    rw [hb]
    clear h1
    go_enter Tryz.func37, Tryz.ntmps37
    go_wp2
    go_ret
    exact ⟨by simp, rfl⟩
  · have d1 : decide (v ≥ -1) = false := decide_eq_false h1
    have d1' : decide (-1 ≤ v) = false := decide_eq_false h1
    rw [d1']
    clear h1
    go_enter Tryz.func37, Tryz.ntmps37
    go_wp2
    go_ret
    exact ⟨by simp, rfl⟩
theorem other_any (k : Int) (w : World) (hk : 0 ≤ k ∧ k ≤ 1) : Calls Tryz.prog 40 #[.int .i64 k] w fun e w' => e = .returned (.int .i64 (1 - k)) ∧ w' = w := by
  have h1 : wrap64 (1 - k) = 1 - k := by unfold wrap64; omega
  go_enter Tryz.func40, Tryz.ntmps40
  go_wp2
  go_ret
  exact ⟨by simp, rfl⟩
theorem wrap_bits (v : Int) : IntKind.u64.wrap v = ((bits64 v : Nat) : Int) := by
  unfold bits64
  simp [IntKind.wrap, IntKind.bits, IntKind.signed]
  omega
set_option maxRecDepth 5000 in
set_option maxHeartbeats 2000000 in
theorem bytesOfM_any (v : Int) (w : World) : Calls Tryz.prog 38 #[.int .i64 v] w fun e w' => e = .returned (.string ⟨(slotL v).toArray⟩) ∧ Below w.heap.size w w' := by
  obtain ⟨m, hm⟩ : ∃ m, bits64 v = m := ⟨_, rfl⟩
  have HW : Hid (IntKind.u64.wrap v = ((m : Nat) : Int)) := by show _ = _; rw [← hm]; exact wrap_bits v
  obtain ⟨R, hR⟩ : ∃ R : ByteArray, (⟨(slotL v).toArray⟩ : ByteArray) = R := ⟨_, rfl⟩
  have HR : Hid (R = ⟨(Fr.nb m 8 ++ Fr.nb (crcN (Fr.nb m 8)) 4 ++ List.replicate 52 0).toArray⟩) := by
    show _ = _
    rw [← hR]
    unfold slotL slotH
    rw [hm]
  rw [hR]
  clear hR hm
  go_enter Tryz.func38, Tryz.ntmps38
  go_wp2_with fail
  refine (Fr.wNew _).mono ?_
  rintro e w1 ⟨rfl, h1, hb1, hs1⟩
  have HS1 := hide hs1
  clear hs1
  go_wp2_with fail
  refine (Fr.wI64 v m HW.out _ _ _ _ h1 (fun l e => by cases e; simp)).mono ?_
  rintro e w2 ⟨rfl, v2, h2, hM2⟩
  have H2 : Hid (Fr.CW w2 w.heap.size v2 (some (Fr.nb m 8))) := by
    have := h2
    simp only [Option.map_some, List.nil_append] at this
    exact this
  go_wp2_with fail
  obtain ⟨Hd, hHd⟩ : ∃ S : ByteArray, S = ⟨(Fr.nb m 8).toArray⟩ := ⟨_, rfl⟩
  have HHd : Hid (Hd.data.toList = Fr.nb m 8) := by show _ = _; rw [hHd]
  refine (Fr.wOut_l _ _ _ _ H2.out Hd hHd).mono ?_
  rintro e w3 ⟨rfl, hb3⟩
  have h3 := H2.out.below hb3
  obtain ⟨Z, hZ⟩ : ∃ Z : Int, Z = ((Fr.C.on 0#32 Hd.data.toList).toNat : Int) := ⟨_, rfl⟩
  have HZ := hide hZ
  have HZ2 : Hid (Z = (crcN (Fr.nb m 8) : Int)) := by show _ = _; rw [hZ, HHd.out]; rfl
  have HHs : Hid (Hd.size ≤ maxLen) := by
    show _ ≤ _
    rw [← str_len, HHd.out, Fr.nb_length]; unfold maxLen; omega
  clear hHd hZ
  go_wp2_with fail
  refine (Fr.crcSum_any Hd _ HHs.out Z HZ.out).mono ?_
  rintro e w4 ⟨rfl, hb4⟩
  have h4 := h3.below hb4
  go_wp2_with fail
  refine (Fr.wU32 Z _ HZ2.out _ _ _ _ h4 (fun l e => by cases e; simp [Fr.nb_length])).mono ?_
  rintro e w5 ⟨rfl, v5, h5, hM5⟩
  go_wp2_with fail
  refine (Fr.repeat_any 52 _ (by decide) _ rfl).mono ?_
  rintro e w6 ⟨rfl, hb6⟩
  have h6 := h5.below hb6
  obtain ⟨F, hF⟩ : ∃ F : ByteArray, (⟨(List.replicate 52 0).toArray⟩ : ByteArray) = F := ⟨_, rfl⟩
  rw [hF]
  have HFl : Hid (F.data.toList = List.replicate 52 0) := by show _ = _; rw [← hF]
  have HFs : Hid (F.size = 52) := by show _ = _; rw [← str_len, HFl.out, List.length_replicate]
  clear hF
  go_wp2_with fail
  refine (Fr.wRaw F _ _ _ _ h6 (fun l e => by have := HFs.out; cases e; simp [Fr.nb_length]; omega)).mono ?_
  rintro e w7 ⟨rfl, v7, h7, hM7⟩
  have H7 : Hid (Fr.CW w7 w.heap.size v7 (some (Fr.nb m 8 ++ Fr.nb (crcN (Fr.nb m 8)) 4 ++ List.replicate 52 0))) := by
    have := h7
    rw [HFl.out] at this
    simp only [Option.map_some, List.nil_append] at this
    exact this
  go_wp2_with fail
  refine (Fr.wOut_l _ _ _ _ H7.out R HR.out).mono ?_
  rintro e w8 ⟨rfl, hb8⟩
  go_wp2
  go_ret
  have q2 : w.heap.size ≤ w2.heap.size := Nat.le_trans hb1.size hM2.size
  have q3 : w.heap.size ≤ w3.heap.size := Nat.le_trans q2 hb3.size
  have q4 : w.heap.size ≤ w4.heap.size := Nat.le_trans q3 hb4.size
  have q5 : w.heap.size ≤ w5.heap.size := Nat.le_trans q4 hM5.size
  have q6 : w.heap.size ≤ w6.heap.size := Nat.le_trans q5 hb6.size
  have q7 : w.heap.size ≤ w7.heap.size := Nat.le_trans q6 hM7.size
  have own : ∀ {wx : World} {vx : Value} {sx : Option (List UInt8)}, Fr.CW wx w.heap.size vx sx → ∀ k, vx.ownBlock = some k → w.heap.size ≤ k := fun hx k hk => by have := (hx.own k hk).1; omega
  exact ⟨rfl, ((((((hb1.trans (hM2.below (Nat.le_refl _) hb1.size (own h1))).trans (hb3.mono q2)).trans (hb4.mono q3)).trans (hM5.below (Nat.le_refl _) q4 (own h4))).trans (hb6.mono q5)).trans (hM7.below (Nat.le_refl _) q6 (own h6))).trans (hb8.mono q7)⟩
end Go.Proofs.YtlkimfmilccanaaGreat
/-
  What a sector says: HasPrefix, slotOf, slotsOf, next.
-/
namespace Go.Proofs.YtlkimfmilccanaaGreat
open Go.RowKit Go.Maps
set_option linter.unusedVariables false
set_option linter.unusedSimpArgs false
set_option maxRecDepth 5000 in
theorem hasPre_in (s p : ByteArray) (h : p.size ≤ s.size) (b : Bool) (hb : decide (s.extract 0 p.size = p) = b) (w : World) : Calls Tryz.prog 137 #[.string s, .string p] w fun e w' => e = .returned (.bool b) ∧ w' = w := by
  obtain ⟨X, hX⟩ : ∃ X, s.extract 0 p.size = X := ⟨_, rfl⟩
  have hd : decide ((s.size : Int) ≥ (p.size : Int)) = true := decide_eq_true (by omega)
  have hd' : decide ((p.size : Int) ≤ (s.size : Int)) = true := decide_eq_true (by omega)
  have hs : ∀ w : World, (Instr.slice 9 (.string s) none (some (.int .i64 (p.size : Int))) none).run Tryz.prog w = .ok (.string X) w := fun w => by rw [← hX]; exact run_slice_str_to w s p.size h
  have he : (X.toList == p.toList) = b := by rw [k_beq, ← hX]; exact hb
  clear hX hb
  go_enter Tryz.func137, Tryz.ntmps137
  go_wp2
  go_ret
  exact ⟨by simp, rfl⟩
theorem hasPre_any (s p : ByteArray) (h : p.size ≤ s.size) (b : Bool) (hb : decide (s.extract 0 p.size = p) = b) (w : World) : Calls Tryz.prog 105 #[.string s, .string p] w fun e w' => e = .returned (.bool b) ∧ w' = w := by
  have hc := hasPre_in s p h b hb w
  clear h hb
  go_enter Tryz.func105, Tryz.ntmps105
  go_wp2_with fail
  refine hc.mono ?_
  rintro e w1 ⟨rfl, hw⟩
  obtain rfl := hw.symm
  go_wp2
  go_ret
  exact ⟨rfl, rfl⟩
theorem set2 {w w9 : World} {g : Nat} {T : TypeId} {a b a' b' : Value} (h : w.heap[g]? = some (.cells #[a, b] T (0, 0))) (h9 : (w.setCell ⟨g, 0, none⟩ a').setCell ⟨g, 1, none⟩ b' = w9) :
    Below g w w9 ∧ w9.cell? ⟨g, 0, none⟩ = some a' ∧ w9.cell? ⟨g, 1, none⟩ = some b' := by
  have e1 : (w.setCell ⟨g, 0, none⟩ a').heap[g]? = some (.cells #[a', b] T (0, 0)) := by
    rw [heap_setCell_same w g 0 _ T _ h]; rfl
  have e2 : w9.heap[g]? = some (.cells #[a', b'] T (0, 0)) := by
    rw [← h9, heap_setCell_same _ g 1 _ T _ e1]; rfl
  refine ⟨?_, ?_, ?_⟩
  · rw [← h9]
    exact ((Below.refl g w).setCell (p := ⟨g, 0, none⟩) (Nat.le_refl _) a').setCell (p := ⟨g, 1, none⟩) (Nat.le_refl _) b'
  · rw [cell_of_row w9 g 0 _ _ (0, 0) e2]; rfl
  · rw [cell_of_row w9 g 1 _ _ (0, 0) e2]; rfl
theorem set4 {w w9 : World} {g : Nat} {T : TypeId} {a b c d a' b' c' d' : Value} (h : w.heap[g]? = some (.cells #[a, b, c, d] T (0, 0))) (h9 : (((w.setCell ⟨g, 0, none⟩ a').setCell ⟨g, 1, none⟩ b').setCell ⟨g, 2, none⟩ c').setCell ⟨g, 3, none⟩ d' = w9) :
    Below g w w9 ∧ w9.cell? ⟨g, 0, none⟩ = some a' ∧ w9.cell? ⟨g, 1, none⟩ = some b' ∧ w9.cell? ⟨g, 2, none⟩ = some c' ∧ w9.cell? ⟨g, 3, none⟩ = some d' := by
  have e1 : (w.setCell ⟨g, 0, none⟩ a').heap[g]? = some (.cells #[a', b, c, d] T (0, 0)) := by
    rw [heap_setCell_same w g 0 _ T _ h]; rfl
  have e2 : ((w.setCell ⟨g, 0, none⟩ a').setCell ⟨g, 1, none⟩ b').heap[g]? = some (.cells #[a', b', c, d] T (0, 0)) := by
    rw [heap_setCell_same _ g 1 _ T _ e1]; rfl
  have e3 : (((w.setCell ⟨g, 0, none⟩ a').setCell ⟨g, 1, none⟩ b').setCell ⟨g, 2, none⟩ c').heap[g]? = some (.cells #[a', b', c', d] T (0, 0)) := by
    rw [heap_setCell_same _ g 2 _ T _ e2]; rfl
  have e4 : w9.heap[g]? = some (.cells #[a', b', c', d'] T (0, 0)) := by
    rw [← h9, heap_setCell_same _ g 3 _ T _ e3]; rfl
  refine ⟨?_, ?_, ?_, ?_, ?_⟩
  · rw [← h9]
    exact ((((Below.refl g w).setCell (p := ⟨g, 0, none⟩) (Nat.le_refl _) a').setCell (p := ⟨g, 1, none⟩) (Nat.le_refl _) b').setCell (p := ⟨g, 2, none⟩) (Nat.le_refl _) c').setCell (p := ⟨g, 3, none⟩) (Nat.le_refl _) d'
  · rw [cell_of_row w9 g 0 _ _ (0, 0) e4]; rfl
  · rw [cell_of_row w9 g 1 _ _ (0, 0) e4]; rfl
  · rw [cell_of_row w9 g 2 _ _ (0, 0) e4]; rfl
  · rw [cell_of_row w9 g 3 _ _ (0, 0) e4]; rfl
/-- A slot as the code holds it. -/
def slotV (t : Key) : Array Value := #[.int .i64 ((wholeL t).getD 0), .bool (wholeL t).isSome]
theorem num8 (s : ByteArray) (hs : 8 ≤ s.size) : Fr.num 8 (s, 0) = Fr.be (s.data.toList.take 8) := by
  unfold Fr.num Fr.takeA
  rw [if_pos rfl, if_neg (by show ¬ ((s.size : Int) < 8); omega)]
  show Fr.be (s.extract 0 8).data.toList = _
  rw [k_extract s 0 8 (by omega)]
  simp
set_option maxRecDepth 5000 in
set_option maxHeartbeats 2000000 in
theorem slotOf_any (s : ByteArray) (hs : s.size = 64) (w : World) : Calls Tryz.prog 100 #[.string s] w fun e w' => e = .returned (.agg (slotV s.data.toList)) ∧ Below w.heap.size w w' := by
  obtain ⟨z, hz⟩ : ∃ z, valL s.data.toList = z := ⟨_, rfl⟩
  have HZ : Hid (IntKind.i64.wrap (Fr.num 8 (s, 0) : Int) = z) := by
    show _ = _
    rw [num8 s (by omega), ← hz]; rfl
  obtain ⟨bn, hbn⟩ : ∃ b, numB z = b := ⟨_, rfl⟩
  obtain ⟨T, hT⟩ : ∃ T : ByteArray, (⟨(slotL z).toArray⟩ : ByteArray) = T := ⟨_, rfl⟩
  have zT : T.size = 64 := by rw [← hT, ← str_len]; exact slotL_length z
  obtain ⟨H, hH⟩ : ∃ H, T.extract 0 12 = H := ⟨_, rfl⟩
  have lH : H.data.toList = slotH z := by
    rw [← hH, k_extract T 0 12 (by omega), ← hT]
    simp only [List.drop_zero]
    exact slotL_take z
  have zH : H.size = 12 := by rw [← str_len, lH, slotH_length]
  have hsl : ∀ w : World, (Instr.slice 9 (.string T) none (some (.int .i64 12)) none).run Tryz.prog w = .ok (.string H) w := fun w => by rw [← hH]; exact run_slice_str_to w T 12 (by omega)
  obtain ⟨bp, hbp⟩ : ∃ b, decide (s.extract 0 H.size = H) = b := ⟨_, rfl⟩
  have HP := hide (hasPre_any s H (by omega) bp hbp)
  have hpe : (bp = true) ↔ s.data.toList.take 12 = slotH z := by
    rw [← hbp, decide_eq_true_iff, zH, ← lH]
    constructor
    · intro e
      rw [← e, k_extract s 0 12 (by omega)]
      simp
    · intro e
      refine k_ext ?_
      rw [← e, k_extract s 0 12 (by omega)]
      simp
  have HV : Hid (slotV s.data.toList = if (bn && bp) = true then #[.int .i64 z, .bool true] else #[.int .i64 0, .bool false]) := by
    show _ = _
    unfold slotV wholeL
    rw [hz, hbn]
    by_cases hc : bn = true ∧ s.data.toList.take 12 = slotH z
    · rw [if_pos hc, if_pos (by rw [hc.1, hpe.2 hc.2]; rfl)]; rfl
    · rw [if_neg hc, if_neg (fun h => hc (by rw [Bool.and_eq_true] at h; exact ⟨h.1, hpe.1 h.2⟩))]; rfl
  have HBO : Hid (∀ w : World, Calls Tryz.prog 38 #[.int .i64 z] w fun e w' => e = .returned (.string T) ∧ Below w.heap.size w w') := fun w => by rw [← hT]; exact bytesOfM_any z w
  have HN : Hid (∀ w : World, Calls Tryz.prog 37 #[.int .i64 z] w fun e w' => e = .returned (.bool bn) ∧ w' = w) := fun w => by rw [← hbn]; exact isNumber_any z w
  obtain ⟨g, hg⟩ : ∃ g, w.heap.size = g := ⟨_, rfl⟩
  obtain ⟨w0, hw0⟩ : ∃ x, w.alloc (.cells #[.int .i64 0, .bool false] 118) = x := ⟨_, rfl⟩
  have hb0 : Below g w w0 := by rw [← hw0, ← hg]; exact (Below.refl _ _).alloc (Nat.le_refl _) _
  have hc0 : w0.heap[g]? = some (.cells #[.int .i64 0, .bool false] 118 (0, 0)) := by rw [← hw0, ← hg]; exact heap_alloc_new w _
  have HB0 := hide hb0
  have HC0 := hide hc0
  rw [hg]
  obtain ⟨V, hV⟩ : ∃ V, slotV s.data.toList = V := ⟨_, rfl⟩
  rw [hV] at HV ⊢
  clear hz hbn hT zT hH lH zH hbp hpe hs hb0 hc0 hV
  go_enter Tryz.func100, Tryz.ntmps100
  go_wp2_with fail
  refine (Fr.rOpen s _).mono ?_
  rintro e w1 ⟨rfl, h1, hb1, hs1⟩
  have HBW1 := hide hb1
  obtain ⟨q, hq⟩ : ∃ q, w0.heap.size = q := ⟨_, rfl⟩
  rw [hq] at h1 hs1 ⊢
  have HQ := hide hq
  clear hb1 hs1 hq
  go_wp2_with fail
  refine (Fr.rI64 q _ _ h1 z HZ.out).mono ?_
  rintro e w2 ⟨rfl, h2, hm2⟩
  have HB2 : Hid (Below w0.heap.size w0 w2) := by
    have := hm2.below (B := w0.heap.size) (Nat.le_of_eq HQ.out) (by have := HBW1.out.size; omega)
    exact HBW1.out.trans this
  have HC2 : Hid (w2.heap[g]? = some (.cells #[.int .i64 0, .bool false] 118 (0, 0))) := by
    show _ = _
    rw [HB2.out.block g (lt_of_some HC0.out)]; exact HC0.out
  have HL : Hid (g < w0.heap.size) := lt_of_some HC0.out
  clear h1 h2 hm2 HBW1 HQ
  go_wp2_with fail
  refine (HN.out _).mono ?_
  rintro e w3 ⟨rfl, hw⟩
  obtain rfl := hw.symm
  clear hw
  have f0 : w2.frozen? ⟨g, 0, none⟩ = false := frozen_of_row w2 g 0 _ _ HC2.out
  have f1 : w2.frozen? ⟨g, 1, none⟩ = false := frozen_of_row w2 g 1 _ _ HC2.out
  have c0 : w2.cell? ⟨g, 0, none⟩ = some (.int .i64 0) := by rw [cell_of_row w2 g 0 _ _ (0, 0) HC2.out]; rfl
  have c1 : w2.cell? ⟨g, 1, none⟩ = some (.bool false) := by rw [cell_of_row w2 g 1 _ _ (0, 0) HC2.out]; rfl
  cases bn with
  | false =>
    have HE : Hid (V = #[.int .i64 0, .bool false]) := HV.out
    obtain ⟨w9, hw9⟩ : ∃ x, (w2.setCell ⟨g, 0, none⟩ (.int .i64 0)).setCell ⟨g, 1, none⟩ (.bool false) = x := ⟨_, rfl⟩
    obtain ⟨HB9, d0, d1⟩ := set2 HC2.out hw9
    have HBF := hide ((HB0.out.trans (HB2.out.mono (Nat.le_of_lt HL.out))).trans HB9)
    clear HB9
    go_wp2_with fail
    exact bodyPost_ret (v := .agg #[.int .i64 0, .bool false]) (by simp [results, Tryz.f100, go_sem, d0, d1]) rfl ⟨by rw [HE.out], HBF.out⟩
  | true =>
    clear f0 f1 c0 c1
    go_wp2_with fail
    refine (HBO.out _).mono ?_
    rintro e w4 ⟨rfl, hb4⟩
    have HC4 : Hid (w4.heap[g]? = some (.cells #[.int .i64 0, .bool false] 118 (0, 0))) := by
      show _ = _
      rw [hb4.block g (lt_of_some HC2.out)]; exact HC2.out
    have HB4 := hide ((HB0.out.trans (HB2.out.mono (Nat.le_of_lt HL.out))).trans (hb4.mono (Nat.le_of_lt (lt_of_some HC2.out))))
    have f0 : w4.frozen? ⟨g, 0, none⟩ = false := frozen_of_row w4 g 0 _ _ HC4.out
    have f1 : w4.frozen? ⟨g, 1, none⟩ = false := frozen_of_row w4 g 1 _ _ HC4.out
    have c0 : w4.cell? ⟨g, 0, none⟩ = some (.int .i64 0) := by rw [cell_of_row w4 g 0 _ _ (0, 0) HC4.out]; rfl
    have c1 : w4.cell? ⟨g, 1, none⟩ = some (.bool false) := by rw [cell_of_row w4 g 1 _ _ (0, 0) HC4.out]; rfl
    clear hb4
    go_wp2_with fail
    refine (HP.out _).mono ?_
    rintro e w5 ⟨rfl, hw⟩
    obtain rfl := hw.symm
    clear hw
    cases bp with
    | false =>
      have HE : Hid (V = #[.int .i64 0, .bool false]) := HV.out
      obtain ⟨w9, hw9⟩ : ∃ x, (w4.setCell ⟨g, 0, none⟩ (.int .i64 0)).setCell ⟨g, 1, none⟩ (.bool false) = x := ⟨_, rfl⟩
      obtain ⟨HB9, d0, d1⟩ := set2 HC4.out hw9
      have HBF := hide (HB4.out.trans HB9)
      clear HB9
      go_wp2_with fail
      exact bodyPost_ret (v := .agg #[.int .i64 0, .bool false]) (by simp [results, Tryz.f100, go_sem, d0, d1]) rfl ⟨by rw [HE.out], HBF.out⟩
    | true =>
      have HE : Hid (V = #[.int .i64 z, .bool true]) := HV.out
      obtain ⟨w9, hw9⟩ : ∃ x, (w4.setCell ⟨g, 0, none⟩ (.int .i64 z)).setCell ⟨g, 1, none⟩ (.bool true) = x := ⟨_, rfl⟩
      obtain ⟨HB9, d0, d1⟩ := set2 HC4.out hw9
      have HBF := hide (HB4.out.trans HB9)
      clear HB9
      go_wp2_with fail
      exact bodyPost_ret (v := .agg #[.int .i64 z, .bool true]) (by simp [results, Tryz.f100, go_sem, d0, d1]) rfl ⟨by rw [HE.out], HBF.out⟩
/-- Both slots of a file as the code holds them. -/
def slotsV (t : Key) : Array Value := slotV (t.take 64) ++ slotV (t.drop 64)
set_option maxRecDepth 5000 in
set_option maxHeartbeats 2000000 in
theorem slotsOf_any (t : ByteArray) (ht : t.size = 128) (w : World) : Calls Tryz.prog 67 #[.string t] w fun e w' => e = .returned (.agg (slotsV t.data.toList)) ∧ Below w.heap.size w w' := by
  obtain ⟨a, ha⟩ : ∃ a, t.extract 0 64 = a := ⟨_, rfl⟩
  obtain ⟨b, hb⟩ : ∃ b, t.extract 64 t.size = b := ⟨_, rfl⟩
  have la : a.data.toList = t.data.toList.take 64 := by rw [← ha, k_extract t 0 64 (by omega)]; simp
  have lb : b.data.toList = t.data.toList.drop 64 := by rw [← hb, extract_from]
  have za : a.size = 64 := by rw [← str_len, la, List.length_take, str_len, ht]; rfl
  have zb : b.size = 64 := by rw [← str_len, lb, List.length_drop, str_len, ht]
  have s1 : ∀ w : World, (Instr.slice 9 (.string t) none (some (.int .i64 64)) none).run Tryz.prog w = .ok (.string a) w := fun w => by rw [← ha]; exact run_slice_str_to w t 64 (by omega)
  have s2 : ∀ w : World, (Instr.slice 9 (.string t) (some (.int .i64 64)) none none).run Tryz.prog w = .ok (.string b) w := fun w => by rw [← hb]; exact run_slice_str_from w t 64 (by omega)
  obtain ⟨x0, hx0⟩ : ∃ x, (wholeL a.data.toList).getD 0 = x := ⟨_, rfl⟩
  obtain ⟨y0, hy0⟩ : ∃ x, (wholeL a.data.toList).isSome = x := ⟨_, rfl⟩
  obtain ⟨x1, hx1⟩ : ∃ x, (wholeL b.data.toList).getD 0 = x := ⟨_, rfl⟩
  obtain ⟨y1, hy1⟩ : ∃ x, (wholeL b.data.toList).isSome = x := ⟨_, rfl⟩
  have HC1 : Hid (∀ w : World, Calls Tryz.prog 100 #[.string a] w fun e w' => e = .returned (.agg #[.int .i64 x0, .bool y0]) ∧ Below w.heap.size w w') := fun w => by
    have := slotOf_any a za w
    unfold slotV at this
    rw [hx0, hy0] at this
    exact this
  have HC2 : Hid (∀ w : World, Calls Tryz.prog 100 #[.string b] w fun e w' => e = .returned (.agg #[.int .i64 x1, .bool y1]) ∧ Below w.heap.size w w') := fun w => by
    have := slotOf_any b zb w
    unfold slotV at this
    rw [hx1, hy1] at this
    exact this
  have HV : Hid (slotsV t.data.toList = #[.int .i64 x0, .bool y0, .int .i64 x1, .bool y1]) := by
    show _ = _
    unfold slotsV slotV
    rw [← la, ← lb, hx0, hy0, hx1, hy1]; rfl
  obtain ⟨V, hV⟩ : ∃ V, slotsV t.data.toList = V := ⟨_, rfl⟩
  rw [hV] at HV ⊢
  obtain ⟨g, hg⟩ : ∃ g, w.heap.size = g := ⟨_, rfl⟩
  obtain ⟨w0, hw0⟩ : ∃ x, w.alloc (.cells #[.int .i64 0, .bool false, .int .i64 0, .bool false] 120) = x := ⟨_, rfl⟩
  have hb0 : Below g w w0 := by rw [← hw0, ← hg]; exact (Below.refl _ _).alloc (Nat.le_refl _) _
  have hc0 : w0.heap[g]? = some (.cells #[.int .i64 0, .bool false, .int .i64 0, .bool false] 120 (0, 0)) := by rw [← hw0, ← hg]; exact heap_alloc_new w _
  have HB0 := hide hb0
  have HC0 := hide hc0
  rw [hg]
  clear ha hb la lb za zb hx0 hy0 hx1 hy1 hV hb0 hc0 ht
  go_enter Tryz.func67, Tryz.ntmps67
  try go_wp2
  refine wp_region_noPanic ?_
  refine wp_region_held_drew (S := fun wx => True) (by kernel_rfl) trivial (fun hHeld => ?_)
  refine tK 0 (some 3) (.string t) rfl hHeld ?_
  simp only [Act.put, pA, pB, pC]
  refine tH 1 (some 4) (.string a) rfl (fun w hw => by have := s1 w; first | rfl | (go_simp; done) | (go_simp; rfl)) hHeld ?_
  simp only [Act.put, pA, pB, pC]
  refine tK 3 (some 6) (.string t) rfl hHeld ?_
  simp only [Act.put, pA, pB, pC]
  refine tH 4 (some 7) (.string b) rfl (fun w hw => by have := s2 w; first | rfl | (go_simp; done) | (go_simp; rfl)) hHeld ?_
  simp only [Act.put, pA, pB, pC]
  refine rdH 2 rfl (fun K hK => ?_)
  go_simp
  refine (HC1.out _).mono ?_
  rintro e w1 ⟨rfl, hb1⟩
  try go_wp2_with fail
  refine hK.out _ _ trivial (fun hH => ?_)
  clear hK K hHeld
  have hHeld := hH
  clear hH
  refine rdH 5 rfl (fun K hK => ?_)
  go_simp
  refine (HC2.out _).mono ?_
  rintro e w2 ⟨rfl, hb2⟩
  try go_wp2_with fail
  refine hK.out _ _ trivial (fun hH => ?_)
  clear hK K hHeld
  have hHeld := hH
  clear hH
  refine tK 6 (some 9) (.agg #[.int .i64 x0, .bool y0, .int .i64 x1, .bool y1]) rfl hHeld ?_
  simp only [Act.put, pA, pB, pC]
  have hB1 : Below w0.heap.size w0 w1 := ⟨hb1.os, hb1.tape, hb1.output, hb1.size, hb1.block⟩
  have HL : g < w0.heap.size := lt_of_some HC0.out
  have hB2 : Below w0.heap.size w0 w2 := hB1.trans (hb2.mono hB1.size)
  have hc2 : w2.heap[g]? = some (.cells #[.int .i64 0, .bool false, .int .i64 0, .bool false] 120 (0, 0)) := by rw [hB2.block g HL]; exact HC0.out
  have f0 : w2.frozen? ⟨g, 0, none⟩ = false := frozen_of_row w2 g 0 _ _ hc2
  have f1 : w2.frozen? ⟨g, 1, none⟩ = false := frozen_of_row w2 g 1 _ _ hc2
  have f2 : w2.frozen? ⟨g, 2, none⟩ = false := frozen_of_row w2 g 2 _ _ hc2
  have f3 : w2.frozen? ⟨g, 3, none⟩ = false := frozen_of_row w2 g 3 _ _ hc2
  have c0 : w2.cell? ⟨g, 0, none⟩ = some (.int .i64 0) := by rw [cell_of_row w2 g 0 _ _ (0, 0) hc2]; rfl
  have c1 : w2.cell? ⟨g, 1, none⟩ = some (.bool false) := by rw [cell_of_row w2 g 1 _ _ (0, 0) hc2]; rfl
  have c2 : w2.cell? ⟨g, 2, none⟩ = some (.int .i64 0) := by rw [cell_of_row w2 g 2 _ _ (0, 0) hc2]; rfl
  have c3 : w2.cell? ⟨g, 3, none⟩ = some (.bool false) := by rw [cell_of_row w2 g 3 _ _ (0, 0) hc2]; rfl
  obtain ⟨w9, hw9⟩ : ∃ x, (((w2.setCell ⟨g, 0, none⟩ (.int .i64 x0)).setCell ⟨g, 1, none⟩ (.bool y0)).setCell ⟨g, 2, none⟩ (.int .i64 x1)).setCell ⟨g, 3, none⟩ (.bool y1) = x := ⟨_, rfl⟩
  obtain ⟨HB9, d0, d1, d2, d3⟩ := set4 hc2 hw9
  have HBF := hide ((HB0.out.trans (hB2.mono (Nat.le_of_lt HL))).trans HB9)
  clear hb1 hb2 hB1 hB2 hc2 HB9
  refine rdH 7 rfl (fun K hK => ?_)
  go_simp
  refine hK.out _ _ trivial (fun hH => ?_)
  clear hK K hHeld
  refine ⟨by kernel_rfl, ?_⟩
  refine NoPanic.normal ?_
  go_wp2
  exact bodyPost_ret (v := .agg #[.int .i64 x0, .bool y0, .int .i64 x1, .bool y1]) (by simp [results, Tryz.f67, go_sem, d0, d1, d2, d3]) rfl ⟨by rw [HV.out], HBF.out⟩
def nextB (x0 : Int) (y0 : Bool) (x1 : Int) (y1 : Bool) : Bool := y1 && (!y0 || decide (x0 < x1))
def nextI (b : Bool) : Int := if b then 0 else 1
set_option maxRecDepth 5000 in
set_option maxHeartbeats 2000000 in
theorem next_any (x0 : Int) (y0 : Bool) (x1 : Int) (y1 : Bool) (w : World) : Calls Tryz.prog 68 #[.agg #[.int .i64 x0, .bool y0, .int .i64 x1, .bool y1]] w fun e w' => e = .returned (.int .i64 (nextI (nextB x0 y0 x1 y1))) ∧ Below w.heap.size w w' := by
  obtain ⟨g, hg⟩ : ∃ g, w.heap.size = g := ⟨_, rfl⟩
  obtain ⟨w0, hw0⟩ : ∃ x, w.alloc (.cells #[.int .i64 x0, .bool y0, .int .i64 x1, .bool y1] 120) = x := ⟨_, rfl⟩
  have hb0 : Below g w w0 := by rw [← hw0, ← hg]; exact (Below.refl _ _).alloc (Nat.le_refl _) _
  have hc0 : w0.heap[g]? = some (.cells #[.int .i64 x0, .bool y0, .int .i64 x1, .bool y1] 120 (0, 0)) := by rw [← hw0, ← hg]; exact heap_alloc_new w _
  have c0 : w0.cell? ⟨g, 0, none⟩ = some (.int .i64 x0) := by rw [cell_of_row w0 g 0 _ _ (0, 0) hc0]; rfl
  have c1 : w0.cell? ⟨g, 1, none⟩ = some (.bool y0) := by rw [cell_of_row w0 g 1 _ _ (0, 0) hc0]; rfl
  have c2 : w0.cell? ⟨g, 2, none⟩ = some (.int .i64 x1) := by rw [cell_of_row w0 g 2 _ _ (0, 0) hc0]; rfl
  have c3 : w0.cell? ⟨g, 3, none⟩ = some (.bool y1) := by rw [cell_of_row w0 g 3 _ _ (0, 0) hc0]; rfl
  have HB0 := hide hb0
  rw [hg]
  clear hb0 hc0
  obtain ⟨lt, hlt⟩ : ∃ b, decide (x0 < x1) = b := ⟨_, rfl⟩
  unfold nextB
  rw [hlt]
  cases y1 <;> cases y0 <;> cases lt <;>
  · go_enter Tryz.func68, Tryz.ntmps68
    go_wp2
    go_ret
    exact ⟨rfl, HB0.out⟩
end Go.Proofs.YtlkimfmilccanaaGreat
