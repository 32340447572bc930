import Derived.Test.YtepgoehpjafbhaaGreatDoorSNu
/-
  script's reader: whole numbers, names, the first word.
-/
namespace Go.Proofs.YtepgoehpjafbhaaGreatDoor
open Go.RowKit S
set_option linter.unusedVariables false
set_option linter.unusedSimpArgs false
theorem Kp.fresh {b c n : Nat} {w w1 w2 : World} (h : Kp b n w1 w2) (k : Below w.heap.size w w1) (hn : w.heap.size ≤ n) : Kp b c w w2 :=
  ⟨h.os.trans k.os, h.tape.trans k.tape, h.output.trans k.output, Nat.le_trans k.size h.size, fun i hi hb _ => (h.block i (Nat.lt_of_lt_of_le hi k.size) hb (by omega)).trans (k.block i hi)⟩
set_option maxRecDepth 100000 in
set_option maxHeartbeats 800000 in
theorem whole_any {E : Prop} {B : Nat} {F : Int → List UInt8} (b c off m : Nat) (t : TypeId) (f : Nat → Value) (l : List UInt8) (w : World) (hE : Env E B F w) (hB : B ≤ w.heap.size) (hb : B ≤ b) (hc : B ≤ c)
    (hR : Rd w b l) (hC : Has w c t f m) (ho : off < m) (hbc : c ≠ b) (hl : l.length ≤ 70000) (hg : E ∨ numT l) :
    Calls Tryz.prog 130 #[.pointer (some ⟨b, 0, none⟩), .pointer (some ⟨c, off, none⟩)] w fun e w' => Kp b c w w' ∧
      ((∃ v r, numberA F l = some (v, r) ∧ e = .returned (.tuple #[]) ∧ Rd w' b r ∧ Has w' c t (upd f off (.int .i64 v)) m) ∨ (numberA F l = none ∧ Bad e)) := by
  obtain ⟨w1, hw1⟩ : ∃ x, w.alloc (.cells #[.int .i64 0] 2) = x := ⟨_, rfl⟩
  have b1 : Below w.heap.size w w1 := by rw [← hw1]; exact (Below.refl _ w).alloc (Nat.le_refl _) _
  have hN : Has w1 w.heap.size 2 (fun _ => .int .i64 0) 1 := by rw [← hw1]; exact Has.new w _ _ 1 _ rfl
  have hR1 : Rd w1 b l := Has.below hR b1 (Has.lt hR)
  have hC1 := hC.below b1 hC.lt
  have hs1 : w1.heap.size = w.heap.size + 1 := by rw [← hw1, size_alloc]
  have hbl := Has.lt hR
  have hcl := hC.lt
  have HE1 := hide (hE.below (b1.mono hB))
  have HR1 := hide hR1
  have HC1 := hide hC1
  have HN := hide hN
  have HB1 := hide b1
  clear hR1 hC1 hN b1 hR hC
  go_enter Tryz.func130, Tryz.ntmps130
  go_wp2_with fail
  refine (number_any b w.heap.size 0 1 _ _ l _ HE1.out (by omega) hb (by omega) HR1.out HN.out (by omega) (by omega) hl hg).mono ?_
  rintro e w2 ⟨k2, ⟨v, r, hA, rfl, hR2, hN2⟩ | ⟨hA, rfl⟩⟩
  · have HK2 : Hid (Kp b c w w2) := hide (k2.fresh HB1.out (Nat.le_refl _))
    have hC2 := k2.has HC1.out hbc (by omega)
    have c2 : w2.cell? ⟨w.heap.size, 0, none⟩ = some (.int .i64 v) := hN2.cell 0 (by omega)
    have d2 := hC2.cell off ho
    have f2 := hC2.frozen off
    have H4 := hide (hC2.set off (.int .i64 v))
    have HR4 : Hid (Rd (w2.setCell ⟨c, off, none⟩ (.int .i64 v)) b r) := hide (Has.other hR2 _ _ (fun e => hbc e.symm))
    have HK4 : Hid (Kp b c w (w2.setCell ⟨c, off, none⟩ (.int .i64 v))) := hide (HK2.out.trans (Kp.set _ _ _ (.inr rfl)))
    have HA := hide hA
    clear hA hR2 hN2 hC2 k2
    go_wp2
    go_end0
    exact ⟨HK4.out, .inl ⟨v, r, HA.out, rfl, HR4.out, H4.out⟩⟩
  · have HK2 : Hid (Kp b c w w2) := hide (k2.fresh HB1.out (Nat.le_refl _))
    have HA := hide hA
    clear hA k2
    go_wp2
    exact ⟨rfl, HK2.out, .inr ⟨HA.out, rfl⟩⟩
theorem nextW_len {l wd r : List UInt8} (h : nextW l = some (wd, r)) : wd.length ≤ l.length ∧ r.length < l.length := by
  cases l with
  | nil => cases h
  | cons c t =>
    rw [nextW_cons] at h
    split at h
    · injection h with h
      injection h with h1 h2
      have a := word_len t
      have d := rest_len t
      rw [h1] at a
      rw [h2] at d
      rw [List.length_cons]
      omega
    · cases h
def nameA (zs : List ByteArray) (l : List UInt8) : Option (Int × List UInt8) := (nextW l).bind fun x => if kindB zs x.1 then some (Lib.idxOfS zs (bs x.1), x.2) else none
set_option maxRecDepth 100000 in
set_option maxHeartbeats 800000 in
theorem name_any (b c off m n nb : Nat) (zs : List ByteArray) (t : TypeId) (f : Nat → Value) (l : List UInt8) (w : World) (hN : Nm w nb zs) (hnb : nb < w.heap.size) (hn : n = zs.length) (hz : zs.length ≤ 100)
    (hR : Rd w b l) (hC : Has w c t f m) (ho : off < m) (hbc : c ≠ b) (hbn : nb ≠ b) (hl : l.length ≤ 70000) :
    Calls Tryz.prog 127 #[.pointer (some ⟨b, 0, none⟩), .pointer (some ⟨c, off, none⟩), .slice (some ⟨nb, 0, none⟩) n n] w fun e w' => Kp b c w w' ∧
      ((∃ v r, nameA zs l = some (v, r) ∧ e = .returned (.tuple #[]) ∧ Rd w' b r ∧ Has w' c t (upd f off (.int .i64 v)) m) ∨ (nameA zs l = none ∧ Bad e)) := by
  cases hw : nextW l with
  | none =>
    go_enter Tryz.func127, Tryz.ntmps127
    go_wp2_with fail
    refine (nextWord_no b l _ hR hw).mono ?_
    rintro e w1 ⟨rfl, k1⟩
    go_wp2
    exact ⟨rfl, k1.left, .inr ⟨by unfold nameA; rw [hw]; rfl, rfl⟩⟩
  | some x =>
    obtain ⟨wd, r⟩ := x
    have HW := hide hw
    have HNn := hide hn
    clear hw hn
    go_enter Tryz.func127, Tryz.ntmps127
    go_wp2_with fail
    refine (nextWord_yes b l wd r _ hR hl HW.out).mono ?_
    rintro e w1 ⟨rfl, hR1, k1⟩
    have hN1 : Nm w1 nb zs := fun j hj => by
      have := hN j hj
      unfold World.cell? at this ⊢
      rw [k1.block nb hnb hbn hbn]
      exact this
    have HC1 := hide (k1.has hC hbc hbc)
    have HR1 := hide hR1
    have HK1 : Hid (Kp b c w w1) := hide k1.left
    clear k1 hR1 hR hC hN
    go_wp2_with fail
    refine (kindOf_any nb n zs wd _ hN1 HNn.out hz).mono ?_
    rintro e w2 ⟨rfl, rfl⟩
    have HA : Hid (nameA zs l = if kindB zs wd then some (Lib.idxOfS zs (bs wd), r) else none) := hide (by unfold nameA; rw [HW.out]; rfl)
    generalize Lib.idxOfS zs (bs wd) = v at HA ⊢
    generalize kindB zs wd = kb at HA ⊢
    clear hN1
    cases kb with
    | false =>
      go_wp2_with fail
      refine (require_no _).mono ?_
      rintro e w3 ⟨rfl, rfl⟩
      go_wp2
      exact ⟨rfl, HK1.out, .inr ⟨HA.out, rfl⟩⟩
    | true =>
      have d2 := HC1.out.cell off ho
      have f2 := HC1.out.frozen off
      have H4 := hide (HC1.out.set off (.int .i64 v))
      have HR4 : Hid (Rd (w2.setCell ⟨c, off, none⟩ (.int .i64 v)) b r) := hide (Has.other HR1.out _ _ (fun e => hbc e.symm))
      have HK4 : Hid (Kp b c w (w2.setCell ⟨c, off, none⟩ (.int .i64 v))) := hide (HK1.out.trans (Kp.set _ _ _ (.inr rfl)))
      go_wp2_with fail
      refine (require_yes _).mono ?_
      rintro e w3 ⟨rfl, rfl⟩
      go_wp2
      go_end0
      exact ⟨HK4.out, .inl ⟨v, r, HA.out, rfl, HR4.out, H4.out⟩⟩
end Go.Proofs.YtepgoehpjafbhaaGreatDoor
/-
  script's reader: the first word says the command's kind.
-/
namespace Go.Proofs.YtepgoehpjafbhaaGreatDoor
open Go.RowKit S
set_option linter.unusedVariables false
set_option linter.unusedSimpArgs false
def headA (f : Nat → Value) (wd : List UInt8) : Option (Nat → Value) :=
  if kindB moveN wd then some (upd (upd f 0 (.int .i64 2)) 133 (.int .i64 (Lib.idxOfS moveN (bs wd)))) else if kindB commN wd then some (upd f 0 (.int .i64 (Lib.idxOfS commN (bs wd)))) else none
set_option maxRecDepth 100000 in
set_option maxHeartbeats 800000 in
theorem rhead_any (b c : Nat) (f : Nat → Value) (l : List UInt8) (w : World) (hR : Rd w b l) (hC : Has w c 40 f 176) (hbc : c ≠ b) (hl : l.length ≤ 70000) :
    Calls Tryz.prog 126 #[.pointer (some ⟨b, 0, none⟩), .pointer (some ⟨c, 0, none⟩)] w fun e w' => Kp b c w w' ∧
      ((∃ f', headA f (wordOf l) = some f' ∧ e = .returned (.tuple #[]) ∧ Rd w' b (restOf l) ∧ Has w' c 40 f' 176) ∨ (headA f (wordOf l) = none ∧ Bad e)) := by
  obtain ⟨wd, hwd⟩ : ∃ wd, wordOf l = wd := ⟨_, rfl⟩
  rw [hwd]
  have HWd := hide hwd
  clear hwd
  have hbl := Has.lt hR
  have hcl := hC.lt
  obtain ⟨w1, hw1⟩ : ∃ x, w.setCell ⟨b, 0, none⟩ (.string (bs (restOf l))) = x := ⟨_, rfl⟩
  have HR1 : Hid (Rd w1 b (restOf l)) := hide (by rw [← hw1]; exact hR.set _)
  have HC1 : Hid (Has w1 c 40 f 176) := hide (by rw [← hw1]; exact hC.other _ _ hbc)
  have HK1 : Hid (Kp b c w w1) := hide (by rw [← hw1]; exact Kp.set _ _ _ (.inl rfl))
  have hs1 : w1.heap.size = w.heap.size := by rw [← hw1]; simp [World.setCell]
  obtain ⟨w2, hw2⟩ : ∃ x, w1.alloc (.cells (nmC moveN) 9) = x := ⟨_, rfl⟩
  have b2 : Below w1.heap.size w1 w2 := by rw [← hw2]; exact (Below.refl _ w1).alloc (Nat.le_refl _) _
  have hN2 : Nm w2 w1.heap.size moveN := by rw [← hw2]; exact Nm.new w1 moveN
  have HR2 : Hid (Rd w2 b (restOf l)) := hide (Has.below HR1.out b2 (Has.lt HR1.out))
  have HC2 := hide (HC1.out.below b2 HC1.out.lt)
  have HK2 : Hid (Kp b c w w2) := hide (HK1.out.trans (Kp.of b2))
  obtain ⟨w3, hw3⟩ : ∃ x, w2.alloc (.cells (nmC commN) 9) = x := ⟨_, rfl⟩
  have b3 : Below w2.heap.size w2 w3 := by rw [← hw3]; exact (Below.refl _ w2).alloc (Nat.le_refl _) _
  have hN3 : Nm w3 w2.heap.size commN := by rw [← hw3]; exact Nm.new w2 commN
  have HR3 : Hid (Rd w3 b (restOf l)) := hide (Has.below HR2.out b3 (Has.lt HR2.out))
  have HC3 := hide (HC2.out.below b3 HC2.out.lt)
  have HK3 : Hid (Kp b c w w3) := hide (HK2.out.trans (Kp.of b3))
  have HN2 := hide hN2
  have HN3 := hide hN3
  have HA : Hid (headA f (wd) = if kindB moveN (wd) then some (upd (upd f 0 (.int .i64 2)) 133 (.int .i64 (Lib.idxOfS moveN (bs (wd))))) else if kindB commN (wd) then some (upd f 0 (.int .i64 (Lib.idxOfS commN (bs (wd))))) else none) := hide rfl
  have HW2 := hide hw2
  have HW3 := hide hw3
  clear hN2 hN3 b2 b3 hw2 hw3 hC hs1
  go_enter Tryz.func126, Tryz.ntmps126
  go_wp2_with fail
  refine (word_any b l _ hR hl).mono ?_
  rintro e w1' ⟨rfl, rfl⟩
  rw [hw1, HWd.out]
  clear hw1 hR
  go_wp2_with fail
  refine (moveNames_any _).mono ?_
  rintro e w2' ⟨rfl, rfl⟩
  rw [HW2.out]
  go_wp2_with fail
  refine (kindOf_any w1.heap.size 6 moveN wd _ HN2.out rfl (by decide)).mono ?_
  rintro e w2' ⟨rfl, rfl⟩
  generalize Lib.idxOfS moveN (bs wd) = v at HA ⊢
  generalize kindB moveN wd = kb at HA ⊢
  cases kb with
  | true =>
    have d0 := HC2.out.cell 0 (by omega)
    have g0 := HC2.out.frozen 0
    have h1 := HC2.out.set 0 (.int .i64 2)
    have d1 := h1.cell 133 (by omega)
    have g1 := h1.frozen 133
    have H4 := hide (h1.set 133 (.int .i64 v))
    have HR4 : Hid (Rd ((w2'.setCell ⟨c, 0, none⟩ (.int .i64 2)).setCell ⟨c, 133, none⟩ (.int .i64 v)) b (restOf l)) := hide (Has.other (Has.other HR2.out _ _ (fun e => hbc e.symm)) _ _ (fun e => hbc e.symm))
    have HK4 : Hid (Kp b c w ((w2'.setCell ⟨c, 0, none⟩ (.int .i64 2)).setCell ⟨c, 133, none⟩ (.int .i64 v))) := hide ((HK2.out.trans (Kp.set _ _ _ (.inr rfl))).trans (Kp.set _ _ _ (.inr rfl)))
    clear h1
    go_wp2
    refine bodyPost_ret (results_none rfl _ _ _) rfl ?_
    exact ⟨HK4.out, .inl ⟨_, HA.out, rfl, HR4.out, H4.out⟩⟩
  | false =>
    go_wp2_with fail
    refine (commNames_any _).mono ?_
    rintro e w3' ⟨rfl, rfl⟩
    rw [HW3.out]
    go_wp2_with fail
    refine (kindOf_any _ 10 commN wd _ HN3.out rfl (by decide)).mono ?_
    rintro e w3' ⟨rfl, rfl⟩
    generalize Lib.idxOfS commN (bs wd) = v at HA ⊢
    generalize kindB commN wd = kb at HA ⊢
    cases kb with
    | true =>
      have d0 := HC3.out.cell 0 (by omega)
      have g0 := HC3.out.frozen 0
      have H4 := hide (HC3.out.set 0 (.int .i64 v))
      have HR4 : Hid (Rd (w3'.setCell ⟨c, 0, none⟩ (.int .i64 v)) b (restOf l)) := hide (Has.other HR3.out _ _ (fun e => hbc e.symm))
      have HK4 : Hid (Kp b c w (w3'.setCell ⟨c, 0, none⟩ (.int .i64 v))) := hide (HK3.out.trans (Kp.set _ _ _ (.inr rfl)))
      go_wp2_with fail
      refine (require_yes _).mono ?_
      rintro e w4 ⟨rfl, rfl⟩
      go_wp2
      go_end0
      exact ⟨HK4.out, .inl ⟨_, HA.out, rfl, HR4.out, H4.out⟩⟩
    | false =>
      go_wp2_with fail
      refine (require_no _).mono ?_
      rintro e w4 ⟨rfl, rfl⟩
      go_wp2
      exact ⟨rfl, HK3.out, .inr ⟨HA.out, rfl⟩⟩
end Go.Proofs.YtepgoehpjafbhaaGreatDoor
