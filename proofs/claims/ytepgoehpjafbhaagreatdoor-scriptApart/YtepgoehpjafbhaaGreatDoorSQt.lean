/-
  script's reader: a quoted text.
-/
import Derived.Test.YtepgoehpjafbhaaGreatDoorSQu
namespace Go.Proofs.YtepgoehpjafbhaaGreatDoor
open Go.RowKit S
set_option linter.unusedVariables false
set_option linter.unusedSimpArgs false
/-- What stands behind the first quote: the text, and what is left. -/
def qL : Nat → List UInt8 → Option (List UInt8 × List UInt8)
  | 0, _ => none
  | _ + 1, [] => none
  | n + 1, c :: t => if c = 34 then some ([], t) else if isPl c then (if c = 92 then (escA t).bind fun x => (qL n x.2).map fun y => (x.1 :: y.1, y.2) else (qL n t).map fun y => (c :: y.1, y.2)) else none
theorem qL_cons (n : Nat) (c : UInt8) (t : List UInt8) : qL (n + 1) (c :: t) = if c = 34 then some ([], t) else if isPl c then (if c = 92 then (escA t).bind fun x => (qL n x.2).map fun y => (x.1 :: y.1, y.2) else (qL n t).map fun y => (c :: y.1, y.2)) else none := rfl
theorem qL_nil (n : Nat) : qL n [] = none := by cases n <;> rfl
def quotedA : List UInt8 → Option (List UInt8 × List UInt8)
  | c :: d :: t => if c = 32 ∧ d = 34 then qL (t.length + 1) t else none
  | _ => none
theorem quotedA_two (c d : UInt8) (t : List UInt8) : quotedA (c :: d :: t) = if c = 32 ∧ d = 34 then qL (t.length + 1) t else none := rfl
def restN (b : Nat) (w : World) : Nat := match w.cell? ⟨b, 0, none⟩ with
  | some (.string s) => s.size
  | _ => 0
theorem restN_eq {b : Nat} {w : World} {t : List UInt8} (h : Rd w b t) : restN b w = t.length := by
  unfold restN
  rw [h.cell 0 (by omega)]
  exact bs_size t
def preA (acc : List UInt8) (x : Option (List UInt8 × List UInt8)) : Option (List UInt8 × List UInt8) := x.map fun y => (acc ++ y.1, y.2)
theorem preA_cons (acc : List UInt8) (c : UInt8) (x : Option (List UInt8 × List UInt8)) : preA acc (x.map fun y => (c :: y.1, y.2)) = preA (acc ++ [c]) x := by
  cases x with
  | none => rfl
  | some y => unfold preA; simp
theorem Bytes.kp {w w' : World} {B b c : Nat} {v : Value} {l : List UInt8} (h : Bytes w B v l) (k : Kp b c w w') (hb : b < B) (hc : c < B) : Bytes w' B v l := by
  refine ⟨h.1, h.2.imp id fun ⟨g, cap, cur, h1, h2, h3, h4⟩ => ⟨g, cap, cur, h1, h2, ?_, h4⟩⟩
  have hl := (World.ownsRow.lt h g (by rw [h1]; rfl)).2
  rw [k.block g hl (by omega) (by omega), h3]
theorem Kp.grown {w w1 w2 : World} {b c : Nat} {row : Option Nat} (h : Kp b c w w1) (g : w1.grownBy w2 row) (hr : ∀ k, row = some k → w.heap.size ≤ k) : Kp b c w w2 :=
  ⟨g.os.trans h.os, g.tape.trans h.tape, g.output.trans h.output, Nat.le_trans h.size g.size, fun k hk hb hc => (g.block k (Nat.lt_of_lt_of_le hk h.size) (fun e => by have := hr k e.symm; omega)).trans (h.block k hk hb hc)⟩
theorem Has.grown {w w' : World} {g m : Nat} {t : TypeId} {f : Nat → Value} {row : Option Nat} (h : Has w g t f m) (k : w.grownBy w' row) (hn : some g ≠ row) : Has w' g t f m := by
  have hl := h.lt
  unfold Has at h ⊢
  rw [k.block g hl hn]
  exact h
/-- string(b) of bytes of one's own. -/
theorem Bytes.toS {w : World} {B : Nat} {v : Value} {l : List UInt8} (h : Bytes w B v l) : ∃ ad n cap, v = .slice ad n cap ∧ (convert 24 9 v).run Tryz.prog w = .ok (.string (bs l)) w := by
  rcases h.2 with ⟨h1, h2⟩ | ⟨g', cap', cur, h1, hb, hg, hnc, hcm, hcs, htake⟩
  · have : l = [] := List.length_eq_zero_iff.1 (by simpa using h2)
    subst this
    refine ⟨none, 0, 0, h1, ?_⟩
    rw [h1]
    exact run_convert_bytes_nil w 24 5 Tryz.underlying24 Tryz.underlying5 0 0 9 Tryz.underlying9
  · refine ⟨some ⟨g', 0, none⟩, _, cap', h1, ?_⟩
    rw [h1] at h ⊢
    exact h.conv rfl
set_option maxRecDepth 100000 in
set_option maxHeartbeats 1600000 in
theorem quoted_any (b c off m : Nat) (ty : TypeId) (f : Nat → Value) (l : List UInt8) (w : World)
    (hR : Rd w b l) (hC : Has w c ty f m) (ho : off < m) (hbc : c ≠ b) (hl : l.length ≤ 70000) :
    Calls Tryz.prog 129 #[.pointer (some ⟨b, 0, none⟩), .pointer (some ⟨c, off, none⟩)] w fun e w' => Kp b c w w' ∧
      ((∃ s r, quotedA l = some (s, r) ∧ e = .returned (.tuple #[]) ∧ Rd w' b r ∧ Has w' c ty (upd f off (.string (bs s))) m) ∨ (quotedA l = none ∧ Bad e)) := by
  obtain ⟨R, hRR⟩ : ∃ R, quotedA l = R := ⟨_, rfl⟩
  rw [hRR]
  have HQ := hide hRR
  clear hRR
  have hbl := Has.lt hR
  have hcl := hC.lt
  by_cases h1 : ∃ t, l = 32 :: t
  · obtain ⟨t, rfl⟩ := h1
    obtain ⟨w1, hw1⟩ : ∃ x, w.setCell ⟨b, 0, none⟩ (.string (bs t)) = x := ⟨_, rfl⟩
    have HR1 : Hid (Rd w1 b t) := hide (by rw [← hw1]; exact hR.set t)
    have HC1 : Hid (Has w1 c ty f m) := hide (by rw [← hw1]; exact hC.other _ _ hbc)
    have HK1 : Hid (Kp b c w w1) := hide (by rw [← hw1]; exact Kp.set _ _ _ (.inl rfl))
    have HW := hide hw1
    clear hw1 hC
    go_enter Tryz.func129, Tryz.ntmps129
    go_wp2_with fail
    refine (blank_yes b t _ hR).mono ?_
    rintro e w1' ⟨rfl, rfl⟩
    rw [HW.out]
    go_wp2_with fail
    cases t with
    | nil =>
      refine (next_none b _ HR1.out).mono ?_
      rintro e w2 ⟨rfl, rfl⟩
      go_wp2
      exact ⟨rfl, HK1.out, .inr ⟨by rw [← HQ.out]; rfl, rfl⟩⟩
    | cons d t =>
      obtain ⟨w2, hw2⟩ : ∃ x, w1.setCell ⟨b, 0, none⟩ (.string (bs t)) = x := ⟨_, rfl⟩
      have HR2 : Hid (Rd w2 b t) := hide (by rw [← hw2]; exact HR1.out.set t)
      have HC2 : Hid (Has w2 c ty f m) := hide (by rw [← hw2]; exact HC1.out.other _ _ hbc)
      have HK2 : Hid (Kp b c w w2) := hide (by rw [← hw2]; exact HK1.out.trans (Kp.set _ _ _ (.inl rfl)))
      have HW2 := hide hw2
      clear hw2
      refine (next_some b d t _ HR1.out).mono ?_
      rintro e w3 ⟨rfl, rfl⟩
      rw [HW2.out]
      by_cases h34 : d = 34
      · have hd : ((d.toNat : Int) == 34) = true := by rw [h34]; rfl
        have HA : Hid (R = qL (t.length + 1) t) := hide (by rw [← HQ.out, quotedA_two, if_pos ⟨rfl, h34⟩])
        clear h34
        go_wp2_with fail
        refine (require_yes _).mono ?_
        rintro e w3 ⟨rfl, rfl⟩
        go_wp2_with fail
        cases t with
        | nil =>
          refine (next_none b _ HR2.out).mono ?_
          rintro e w3 ⟨rfl, rfl⟩
          go_wp2
          exact ⟨rfl, HK2.out, .inr ⟨by rw [HA.out]; rfl, rfl⟩⟩
        | cons c0 t0 =>
          obtain ⟨w4, hw4⟩ : ∃ x, w3.setCell ⟨b, 0, none⟩ (.string (bs t0)) = x := ⟨_, rfl⟩
          have HR4 : Hid (Rd w4 b t0) := hide (by rw [← hw4]; exact HR2.out.set t0)
          have HC4 : Hid (Has w4 c ty f m) := hide (by rw [← hw4]; exact HC2.out.other _ _ hbc)
          have HK4 : Hid (Kp b c w w4) := hide (by rw [← hw4]; exact HK2.out.trans (Kp.set _ _ _ (.inl rfl)))
          have HW4 := hide hw4
          clear hw4
          refine (next_some b c0 t0 _ HR2.out).mono ?_
          rintro e w5 ⟨rfl, rfl⟩
          rw [HW4.out]
          have hl0 : t0.length ≤ 70000 := by simp only [List.length_cons] at hl; omega
          go_wp2
          go_loopw [4, 5] (fun v x wr => ∃ acc c1 t1 n, Bytes wr w.heap.size v acc ∧ x = .int .u8 ((UInt8.toNat c1 : Nat) : Int) ∧ Rd wr b t1 ∧ Has wr c ty f m ∧ Kp b c w wr ∧ R = preA acc (qL n (c1 :: t1)) ∧ t1.length < n ∧ acc.length + t1.length ≤ 70000) (fun _ _ wr => restN b wr)
          case atStart =>
            refine ⟨[], c0, t0, (c0 :: t0).length + 1, Bytes.nil _ _, rfl, HR4.out, HC4.out, HK4.out, ?_, ?_, by simp; omega⟩
            · rw [HA.out]
              unfold preA
              cases qL ((c0 :: t0).length + 1) (c0 :: t0) <;> simp
            · simp; omega
          case round =>
            obtain ⟨acc, c1, t1, n, hBy, rfl, hRr, hCr, hKr, hRe, hn, hac⟩ := hrel
            obtain ⟨n, rfl⟩ : ∃ k, n = k + 1 := ⟨n - 1, by omega⟩
            have HRr := hide hRr
            have HCr := hide hCr
            have HKr := hide hKr
            have HBy := hide hBy
            have HRe := hide hRe
            have hsz : w.heap.size ≤ wr.heap.size := hKr.size
            clear hRr hCr hKr hBy hRe
            by_cases e34 : c1 = 34
            · have hd2 : ((c1.toNat : Int) == 34) = true := by rw [e34]; rfl
              have HR0 : Hid (R = some (acc, t1)) := hide (by rw [HRe.out, qL_cons, if_pos e34]; unfold preA; simp)
              obtain ⟨ad, nn, cap, rfl, hcv⟩ := HBy.out.toS
              have d3 := HCr.out.cell off ho
              have f3 := HCr.out.frozen off
              have HC5 := hide (HCr.out.set off (.string (bs acc)))
              have HR5 : Hid (Rd (wr.setCell ⟨c, off, none⟩ (.string (bs acc))) b t1) := hide (Has.other HRr.out _ _ (fun e => hbc e.symm))
              have HK5 : Hid (Kp b c w (wr.setCell ⟨c, off, none⟩ (.string (bs acc)))) := hide (HKr.out.trans (Kp.set _ _ _ (.inr rfl)))
              clear e34
              go_wp2
              go_end0
              exact ⟨HK5.out, .inl ⟨_, _, HR0.out, rfl, HR5.out, HC5.out⟩⟩
            · have hd2 : ((c1.toNat : Int) == 34) = false := by rw [beq_eq_false_iff_ne]; exact fun e => e34 (u8_of_int c1 34 e)
              go_wp2_with fail
              refine (isPlain_any c1 _).mono ?_
              rintro e w6 ⟨rfl, rfl⟩
              cases hpl : isPl c1 with
              | false =>
                have HR0 : Hid (R = none) := hide (by rw [HRe.out, qL_cons, if_neg e34, if_neg (by rw [hpl]; decide)]; rfl)
                clear e34 hpl
                go_wp2_with fail
                refine (require_no _).mono ?_
                rintro e w7 ⟨rfl, rfl⟩
                go_wp2
                exact ⟨rfl, HKr.out, .inr ⟨HR0.out, rfl⟩⟩
              | true =>
                have HRe2 : Hid (R = preA acc (if c1 = 92 then (escA t1).bind fun x => (qL n x.2).map fun y => (x.1 :: y.1, y.2) else (qL n t1).map fun y => (c1 :: y.1, y.2))) := hide (by rw [HRe.out, qL_cons, if_neg e34, if_pos hpl])
                clear e34 hpl
                go_wp2_with fail
                refine (require_yes _).mono ?_
                rintro e w7 ⟨rfl, rfl⟩
                by_cases e92 : c1 = 92
                · have hd3 : ((c1.toNat : Int) == 92) = true := by rw [e92]; rfl
                  have HRe3 : Hid (R = preA acc ((escA t1).bind fun x => (qL n x.2).map fun y => (x.1 :: y.1, y.2))) := hide (by rw [HRe2.out, if_pos e92])
                  clear e92
                  go_wp2_with fail
                  refine (escaped_any b t1 _ HRr.out).mono ?_
                  rintro e w8 ⟨k8, ⟨x, r, hA, rfl, hR8⟩ | ⟨hA, rfl⟩⟩
                  · have hlr := escA_len hA
                    have HRe4 : Hid (R = preA (acc ++ [x]) (qL n r)) := hide (by rw [HRe3.out, hA]; exact preA_cons acc x (qL n r))
                    have HBy8 : Hid (Bytes w8 w.heap.size _ acc) := hide (HBy.out.kp k8 hbl hbl)
                    have HR8 := hide hR8
                    have HK8 := hide (HKr.out.trans k8.left)
                    have HC8 := hide (k8.has HCr.out hbc hbc)
                    clear hA k8 hR8
                    have hrow : ∀ k, Value.ownBlock u4 = some k → w.heap.size ≤ k := HBy8.out.block
                    have hszA := HK8.out.size
                    go_wp2_with (at_builtin; refine wpList_append_byte rfl _ _ rfl w.heap.size _ acc x _ rfl (by rfl) HBy8.out (by rfl) rfl (by omega) hszA ?_; intro g cap w9 hB9 hgr hg)
                    have HK9 : Hid (Kp b c w w9) := hide (HK8.out.grown hgr hrow)
                    have HR9 : Hid (Rd w9 b r) := hide (Has.grown HR8.out hgr (fun e => by have := hrow b e.symm; omega))
                    have HC9 : Hid (Has w9 c ty f m) := hide (Has.grown HC8.out hgr (fun e => by have := hrow c e.symm; omega))
                    have HB9 := hide hB9
                    clear hB9 hgr hg
                    cases r with
                    | nil =>
                      have HR0 : Hid (R = none) := hide (by rw [HRe4.out, qL_nil]; rfl)
                      refine (next_none b _ HR9.out).mono ?_
                      rintro e w10 ⟨rfl, rfl⟩
                      go_wp2
                      exact ⟨rfl, HK9.out, .inr ⟨HR0.out, rfl⟩⟩
                    | cons c2 t2 =>
                      have HRA : Hid (Rd (w9.setCell ⟨b, 0, none⟩ (.string (bs t2))) b t2) := hide (HR9.out.set t2)
                      have HCA : Hid (Has (w9.setCell ⟨b, 0, none⟩ (.string (bs t2))) c ty f m) := hide (HC9.out.other _ _ hbc)
                      have HKA : Hid (Kp b c w (w9.setCell ⟨b, 0, none⟩ (.string (bs t2)))) := hide (HK9.out.trans (Kp.set _ _ _ (.inl rfl)))
                      have HBA : Hid (Bytes (w9.setCell ⟨b, 0, none⟩ (.string (bs t2))) w.heap.size _ _) := hide (HB9.out.kp (Kp.set _ ⟨b, 0, none⟩ _ (.inl rfl) : Kp b b w9 _) hbl hbl)
                      have hN0 := restN_eq HRr.out
                      have hNA := restN_eq HRA.out
                      refine (next_some b c2 t2 _ HR9.out).mono ?_
                      rintro e w10 ⟨rfl, rfl⟩
                      go_wp2
                      refine ⟨⟨acc ++ [x], c2, t2, n, ?_, rfl, HRA.out, HCA.out, HKA.out, HRe4.out, ?_, ?_⟩, ?_⟩
                      · exact HBA.out
                      · simp only [List.length_cons] at hlr hn hac; omega
                      · simp only [List.length_cons, List.length_append, List.length_nil] at hlr hn hac ⊢; omega
                      · simp only [List.length_cons] at hlr hn hac hN0; omega
                  · have HR0 : Hid (R = none) := hide (by rw [HRe3.out, hA]; rfl)
                    have HK8 := hide (HKr.out.trans k8.left)
                    clear hA k8
                    go_wp2
                    exact ⟨rfl, HK8.out, .inr ⟨HR0.out, rfl⟩⟩
                · have hd3 : ((c1.toNat : Int) == 92) = false := by rw [beq_eq_false_iff_ne]; exact fun e => e92 (u8_of_int c1 92 e)
                  have HRe3 : Hid (R = preA (acc ++ [c1]) (qL n t1)) := hide (by rw [HRe2.out, if_neg e92]; exact preA_cons acc c1 (qL n t1))
                  clear e92
                  have HR8 := HRr
                  have HK8 := HKr
                  have HC8 := HCr
                  have HBy8 := HBy
                  have hlr : t1.length ≤ t1.length := Nat.le_refl _
                  have hrow : ∀ k, Value.ownBlock u4 = some k → w.heap.size ≤ k := HBy8.out.block
                  have hszA := HK8.out.size
                  go_wp2_with (at_builtin; refine wpList_append_byte rfl _ _ rfl w.heap.size _ acc c1 _ rfl (by rfl) HBy8.out (by rfl) rfl (by omega) hszA ?_; intro g cap w9 hB9 hgr hg)
                  have HK9 : Hid (Kp b c w w9) := hide (HK8.out.grown hgr hrow)
                  have HR9 : Hid (Rd w9 b t1) := hide (Has.grown HR8.out hgr (fun e => by have := hrow b e.symm; omega))
                  have HC9 : Hid (Has w9 c ty f m) := hide (Has.grown HC8.out hgr (fun e => by have := hrow c e.symm; omega))
                  have HB9 := hide hB9
                  clear hB9 hgr hg
                  cases t1 with
                  | nil =>
                    have HR0 : Hid (R = none) := hide (by rw [HRe3.out, qL_nil]; rfl)
                    refine (next_none b _ HR9.out).mono ?_
                    rintro e w10 ⟨rfl, rfl⟩
                    go_wp2
                    exact ⟨rfl, HK9.out, .inr ⟨HR0.out, rfl⟩⟩
                  | cons c2 t2 =>
                    have HRA : Hid (Rd (w9.setCell ⟨b, 0, none⟩ (.string (bs t2))) b t2) := hide (HR9.out.set t2)
                    have HCA : Hid (Has (w9.setCell ⟨b, 0, none⟩ (.string (bs t2))) c ty f m) := hide (HC9.out.other _ _ hbc)
                    have HKA : Hid (Kp b c w (w9.setCell ⟨b, 0, none⟩ (.string (bs t2)))) := hide (HK9.out.trans (Kp.set _ _ _ (.inl rfl)))
                    have HBA : Hid (Bytes (w9.setCell ⟨b, 0, none⟩ (.string (bs t2))) w.heap.size _ _) := hide (HB9.out.kp (Kp.set _ ⟨b, 0, none⟩ _ (.inl rfl) : Kp b b w9 _) hbl hbl)
                    have hN0 := restN_eq HRr.out
                    have hNA := restN_eq HRA.out
                    refine (next_some b c2 t2 _ HR9.out).mono ?_
                    rintro e w10 ⟨rfl, rfl⟩
                    go_wp2
                    refine ⟨⟨acc ++ [c1], c2, t2, n, ?_, rfl, HRA.out, HCA.out, HKA.out, HRe3.out, ?_, ?_⟩, ?_⟩
                    · exact HBA.out
                    · simp only [List.length_cons] at hlr hn hac; omega
                    · simp only [List.length_cons, List.length_append, List.length_nil] at hlr hn hac ⊢; omega
                    · simp only [List.length_cons] at hlr hn hac hN0; omega
      · have hd : ((d.toNat : Int) == 34) = false := by rw [beq_eq_false_iff_ne]; exact fun e => h34 (u8_of_int d 34 e)
        have HA : Hid (R = none) := hide (by rw [← HQ.out, quotedA_two, if_neg (fun h => h34 h.2)])
        clear h34
        go_wp2_with fail
        refine (require_no _).mono ?_
        rintro e w3 ⟨rfl, rfl⟩
        go_wp2
        exact ⟨rfl, HK2.out, .inr ⟨HA.out, rfl⟩⟩
  · have hA : R = none := by
      rw [← HQ.out]
      clear hR hl HQ
      match l, h1 with
      | [], _ => rfl
      | [_], _ => rfl
      | c :: d :: t, h1 => rw [quotedA_two, if_neg (fun h => h1 ⟨d :: t, by rw [h.1]⟩)]
    have HA := hide hA
    clear hA
    go_enter Tryz.func129, Tryz.ntmps129
    go_wp2_with fail
    refine (blank_no b l _ hR (fun t e => h1 ⟨t, e⟩)).mono ?_
    rintro e w1 ⟨rfl, k1⟩
    go_wp2
    exact ⟨rfl, k1.left, .inr ⟨HA.out, rfl⟩⟩
end Go.Proofs.YtepgoehpjafbhaaGreatDoor
