/-
  script's reader: all that is left of a line, as fates (printed by gen_fs.py).
-/
import Derived.Test.YtepgoehpjafbhaaGreatDoorSApp
namespace Go.Proofs.YtepgoehpjafbhaaGreatDoor
open Go.RowKit S
set_option linter.unusedVariables false
set_option linter.unusedSimpArgs false
def fatesA (F : Int → List UInt8) : Nat → List UInt8 → Option (List (Nat → Value))
  | _, [] => some []
  | 0, _ :: _ => none
  | n + 1, c :: t => (fateP F zF (c :: t)).bind fun x => (fatesA F n x.2).map fun y => x.1 :: y
def fatesT (F : Int → List UInt8) : Nat → List UInt8 → Prop
  | _, [] => True
  | 0, _ :: _ => True
  | n + 1, c :: t => fateT F (c :: t) ∧ ∀ x, fateP F zF (c :: t) = some x → fatesT F n x.2
theorem fatesA_cons (F : Int → List UInt8) (n : Nat) (c : UInt8) (t : List UInt8) : fatesA F (n + 1) (c :: t) = (fateP F zF (c :: t)).bind fun x => (fatesA F n x.2).map fun y => x.1 :: y := rfl
theorem fatesA_nil (F : Int → List UInt8) (n : Nat) : fatesA F n [] = some [] := by cases n <;> rfl
theorem upd_upd (f : Nat → Value) (k : Nat) (x y : Value) (i : Nat) : upd (upd f k x) k y i = upd f k y i := by
  unfold upd
  split <;> rfl
def preF (acc : List (Nat → Value)) (x : Option (List (Nat → Value))) : Option (List (Nat → Value)) := x.map fun y => acc ++ y
theorem preF_cons (acc : List (Nat → Value)) (c : Nat → Value) (x : Option (List (Nat → Value))) : preF acc (x.map fun y => c :: y) = preF (acc ++ [c]) x := by
  cases x with
  | none => rfl
  | some y => unfold preF; simp
theorem fateP_ok {F : Int → List UInt8} {f f' : Nat → Value} {l r : List UInt8} (h : fateP F f l = some (f', r)) (h1 : One 4 f) : One 4 f' ∧ r.length < l.length := by
  unfold fateP at h
  cases ha : nameA fateN l with
  | none => rw [ha] at h; cases h
  | some x1 =>
    rw [ha] at h
    simp only [Option.bind_some] at h
    have l1 := nameA_len ha
    cases hb : quotedA x1.2 with
    | none => rw [hb] at h; cases h
    | some x2 =>
      rw [hb] at h
      simp only [Option.bind_some] at h
      have l2 := quotedA_len hb
      cases hc : numberA F x2.2 with
      | none => rw [hc] at h; cases h
      | some x3 =>
        rw [hc] at h
        simp only [Option.bind_some] at h
        have l3 := numberA_len hc
        have o3 : One 4 (upd (upd (upd f 2 (.int .i64 x1.1)) 0 (.string (bs x2.1))) 1 (.int .i64 x3.1)) := ((h1.upd 2 _ rfl).upd 0 _ rfl).upd 1 _ rfl
        split at h
        · cases hd : quotedA x3.2 with
          | none => rw [hd] at h; cases h
          | some x4 =>
            rw [hd] at h
            simp only [Option.bind_some] at h
            have l4 := quotedA_len hd
            injection h with h
            injection h with e1 e2
            subst e1 e2
            exact ⟨o3.upd 3 _ rfl, by omega⟩
        · injection h with h
          injection h with e1 e2
          subst e1 e2
          exact ⟨o3, by omega⟩
section
variable {P : Program} {o : Oper} {a : Act} {w w' : World} {K : Act → World → Prop} {Q : Exit → Act → World → Prop} {v : Value}
theorem wp_app (s x : Operand) (tys : Array TypeId) (ho : o.op = .call { callee := .builtin .append, args := #[s, x], argTypes := tys }) (h : (Builtin.append_ tys o.type #[a.eval s, a.eval x]).run P w = .ok v w') (d : Option Tmp) (hd : o.dst = d) (k : K (a.put d v) w') : o.wp P a w K Q := by
  subst hd
  exact wpRun (by simp [execOp, ho, resolve, invoke, builtin, h, Result.andThen]) k
theorem wp_slice1 (T : TypeId) (x : Operand) (ho : o.op = .buildSlice T 1 #[(0, x)]) (y : Value) (hy : a.eval x = y) (h : (Instr.buildSlice T 1 #[(0, y)]).run P w = .ok v w') (d : Option Tmp) (hd : o.dst = d) (k : K (a.put d v) w') : o.wp P a w K Q := by
  subst hd
  exact wpRun (by simp [execOp, ho, hy, h, Result.andThen]) k
end
set_option maxRecDepth 100000 in
set_option maxHeartbeats 1600000 in
theorem rfates_any {E : Prop} {B : Nat} {F : Int → List UInt8} (b c off m : Nat) (ty : TypeId) (f : Nat → Value) (l : List UInt8) (w : World) (hE : Env E B F w) (hB0 : B ≤ w.heap.size) (hb : B ≤ b) (hc : B ≤ c)
    (hR : Rd w b l) (hC : Has w c ty f m) (ho : off < m) (hnil : f off = .slice none 0 0) (hbc : c ≠ b) (hl : l.length ≤ 70000) (hg : E ∨ fatesT F l.length l) :
    Calls Tryz.prog 124 #[.pointer (some ⟨b, 0, none⟩), .pointer (some ⟨c, off, none⟩)] w fun e w' => Kp b c w w' ∧
      ((∃ fs v, fatesA F l.length l = some fs ∧ e = .returned (.tuple #[]) ∧ Rd w' b [] ∧ Has w' c ty (upd f off v) m ∧ OwnF w.heap.size w' v fs) ∨ (fatesA F l.length l = none ∧ Bad e)) := by
  obtain ⟨R, hRR⟩ : ∃ R, fatesA F l.length l = R := ⟨_, rfl⟩
  rw [hRR]
  have HQ0 : Hid (R = preF [] (fatesA F l.length l)) := hide (by rw [← hRR]; unfold preF; cases fatesA F l.length l <;> simp)
  clear hRR
  have hbl := Has.lt hR
  have hcl := hC.lt
  have HE := hide hE
  have HR := hide hR
  have HC : Hid (Has w c ty (upd f off (.slice none 0 0)) m) := hide (hC.congr _ fun i hi => by
    unfold upd
    split
    · rename_i e; rw [e, hnil]
    · rfl)
  have HG0 := hide hg
  clear hE hR hC hnil hg
  go_enter Tryz.func124, Tryz.ntmps124
  go_wp2
  go_loopw [9] (fun _ wr => ∃ acc lc n v, Rd wr b lc ∧ Has wr c ty (upd f off v) m ∧ OwnF w.heap.size wr v acc ∧ Kp b c w wr ∧ R = preF acc (fatesA F n lc) ∧ lc.length ≤ n ∧ acc.length + lc.length ≤ 70000 ∧ (E ∨ fatesT F n lc)) (fun _ wr => restN b wr)
  case atStart => exact ⟨[], l, l.length, _, HR.out, HC.out, OwnF.nil _ _, Kp.refl _ _ _, HQ0.out, Nat.le_refl _, by simp; omega, HG0.out⟩
  case round =>
    obtain ⟨acc, lc, n, v, hRr, hCr, hOr, hKr, hQr, hln, hac, hT⟩ := hrel
    have HTr := hide hT
    have HRr := hide hRr
    have HCr := hide hCr
    have HOr := hide hOr
    have HKr := hide hKr
    have HQr := hide hQr
    have hsz := hKr.size
    have c0 := hRr.cell 0 (by omega)
    clear hRr hCr hOr hKr hQr hT
    cases lc with
    | nil =>
      have HQn : Hid (R = some acc) := hide (by rw [HQr.out, fatesA_nil]; unfold preF; simp)
      have he := emp_nil
      go_wp2
      go_end0
      exact ⟨HKr.out, .inl ⟨_, _, HQn.out, rfl, HRr.out, HCr.out, HOr.out⟩⟩
    | cons c1 t1 =>
      obtain ⟨n, rfl⟩ : ∃ k, n = k + 1 := ⟨n - 1, by simp only [List.length_cons] at hln; omega⟩
      have HQ1 : Hid (R = preF acc ((fateP F zF (c1 :: t1)).bind fun x => (fatesA F n x.2).map fun y => x.1 :: y)) := hide (by rw [HQr.out, fatesA_cons])
      have he := emp_cons c1 t1
      have HT1 : Hid (E ∨ (fateT F (c1 :: t1) ∧ ∀ x, fateP F zF (c1 :: t1) = some x → fatesT F n x.2)) := hide HTr.out
      obtain ⟨w1, hw1⟩ : ∃ x, wr.alloc (.cells (tabv zF 4) 49) = x := ⟨_, rfl⟩
      have b1 : Below wr.heap.size wr w1 := by rw [← hw1]; exact (Below.refl _ wr).alloc (Nat.le_refl _) _
      have HN1 : Hid (Has w1 wr.heap.size 49 zF 4) := hide (by rw [← hw1]; exact Has.new wr _ _ 4 _ rfl)
      have HR1 : Hid (Rd w1 b (c1 :: t1)) := hide (Has.below HRr.out b1 (Has.lt HRr.out))
      have HC1 := hide (HCr.out.below b1 HCr.out.lt)
      have HO1 := hide (HOr.out.below b1 (Nat.le_refl _))
      have HK1 : Hid (Kp b c w w1) := hide (HKr.out.trans (Kp.of b1))
      have HE1 := hide (HE.out.below (HK1.out.below hB0 hb hc))
      have hs1 : w1.heap.size = wr.heap.size + 1 := by rw [← hw1, size_alloc]
      have HW1 : Hid (wr.alloc (.cells #[.string ⟨#[]⟩, .int .i64 0, .int .i64 0, .string ⟨#[]⟩] 49) = w1) := hide hw1
      clear hw1 b1
      go_wp2_with fail
      rw [HW1.out]
      refine (rfate_any b wr.heap.size zF (c1 :: t1) _ HE1.out (by omega) hb (by omega) HR1.out HN1.out (by omega) (by omega) (HT1.out.imp id And.left)).mono ?_
      rintro e w2 ⟨k2, ⟨g, r, hA, rfl, hR2, hN2⟩ | ⟨hA, rfl⟩⟩
      case inr =>
        have HQn : Hid (R = none) := hide (by rw [HQ1.out, hA]; rfl)
        have HKn : Hid (Kp b c w w2) := hide ⟨k2.os.trans HK1.out.os, k2.tape.trans HK1.out.tape, k2.output.trans HK1.out.output, Nat.le_trans HK1.out.size k2.size, fun i hi h1 h2 => (k2.block i (by omega) h1 (by omega)).trans (HK1.out.block i hi h1 h2)⟩
        clear hA k2
        go_wp2
        exact ⟨rfl, HKn.out, .inr ⟨HQn.out, rfl⟩⟩
      have HQ2 : Hid (R = preF (acc ++ [g]) (fatesA F n r)) := hide (by rw [HQ1.out, hA]; exact preF_cons acc g _)
      have HT2 : Hid (E ∨ fatesT F n r) := hide (HT1.out.imp id fun h => h.2 _ hA)
      obtain ⟨hog, hlr⟩ := fateP_ok hA one_zF
      have HK2 : Hid (Kp b c w w2) := hide ⟨k2.os.trans HK1.out.os, k2.tape.trans HK1.out.tape, k2.output.trans HK1.out.output, Nat.le_trans HK1.out.size k2.size, fun i hi h1 h2 => (k2.block i (by omega) h1 (by omega)).trans (HK1.out.block i hi h1 h2)⟩
      have HC2 := hide (k2.has HC1.out hbc (by omega))
      have HO2 : Hid (OwnF w.heap.size w2 v acc) := hide (HO1.out.same fun k hk => k2.block k (HO1.out.lt k hk).2 (by have := (HO1.out.lt k hk).1; omega) (by have := (HOr.out.lt k hk).2; omega))
      have HR2 := hide hR2
      have HN2 := hide hN2
      have hs2 := k2.size
      clear hA k2 hR2 hN2
      obtain ⟨ad, cap, rfl, _⟩ := HO2.out.shape
      go_wp2_with fail
      refine wp_region_noPanic ?_
      refine wp_region_T (S := fun wx => Has wx c ty (upd f off (.slice ad acc.length cap)) m ∧ Has wx wr.heap.size 49 g 4) 8 (by kernel_rfl) ⟨HC2.out.drew, HN2.out.drew⟩ (fun hHeld => ?_)
      generalize hwq : World.drew w2 = wq at hHeld ⊢
      have HR3 : Hid (Rd wq b r) := hide (by rw [← hwq]; exact Has.drew HR2.out)
      have HC3 : Hid (Has wq c ty (upd f off (.slice ad acc.length cap)) m) := hide hHeld.1
      have HN3 : Hid (Has wq wr.heap.size 49 g 4) := hide hHeld.2
      have HO3 : Hid (OwnF w.heap.size wq (.slice ad acc.length cap) acc) := hide (by rw [← hwq]; exact HO2.out.same fun _ _ => rfl)
      have HK3 : Hid (Kp b c w wq) := hide (by rw [← hwq]; exact ⟨HK2.out.os, HK2.out.tape, HK2.out.output, HK2.out.size, HK2.out.block⟩)
      have hs3 := HK3.out.size
      have hs3b : wq.heap.size = w2.heap.size := by rw [← hwq]; rfl
      clear hwq HR2 HC2 HO2 HK2 HN2
      refine takeP [7] 0 (some 13) (.pointer (some ⟨c, off, none⟩)) rfl rfl (by kernel_rfl) (by kernel_rfl) (by kernel_rfl) (by kernel_rfl) (by kernel_rfl) (by decide) (fun _ _ _ h => h) (by rfl) (fun w_ hw => by first | rfl | (go_simp; done) | (go_simp; rfl)) hHeld ?_
      simp only [Act.put, List.setIfInBounds_toArray, List.set_cons_zero, List.set_cons_succ]
      refine takeP [6, 3, 2] 1 (some 14) (.pointer (some ⟨c, off, none⟩)) rfl rfl (by kernel_rfl) (by kernel_rfl) (by kernel_rfl) (by kernel_rfl) (by kernel_rfl) (by decide) (fun _ _ _ h => h) (by rfl) (fun w_ hw => by first | rfl | (go_simp; done) | (go_simp; rfl)) hHeld ?_
      simp only [Act.put, List.setIfInBounds_toArray, List.set_cons_zero, List.set_cons_succ]
      refine takeP [6, 3] 2 (some 15) (.pointer (some ⟨c, off, none⟩)) rfl rfl (by kernel_rfl) (by kernel_rfl) (by kernel_rfl) (by kernel_rfl) (by kernel_rfl) (by decide) (fun _ _ _ h => h) (by rfl) (fun w_ hw => by first | rfl | (go_simp; done) | (go_simp; rfl)) hHeld ?_
      simp only [Act.put, List.setIfInBounds_toArray, List.set_cons_zero, List.set_cons_succ]
      refine takeP [6] 3 (some 16) (.slice ad acc.length cap) rfl rfl (by kernel_rfl) (by kernel_rfl) (by kernel_rfl) (by kernel_rfl) (by kernel_rfl) (by decide) (fun _ _ _ h => h) (by rfl) (fun w_ hw => by have cc : World.cell? _ ⟨c, off, none⟩ = some (.slice ad acc.length cap) := (by rw [hw.1.cell off ho]; unfold upd; rw [if_pos rfl]); go_simp) hHeld ?_
      simp only [Act.put, List.setIfInBounds_toArray, List.set_cons_zero, List.set_cons_succ]
      refine takeP [6, 5] 4 (some 17) (.agg (tabv g 4)) rfl rfl (by kernel_rfl) (by kernel_rfl) (by kernel_rfl) (by kernel_rfl) (by kernel_rfl) (by decide) (fun _ _ _ h => h) (by rfl) (fun w_ hw => run_load_at w_ 49 _ rfl wr.heap.size 0 (by rfl) _ 4 _ (hw.2.at_ 0 (by omega) (fun i hi => by rw [Nat.zero_add])) Tryz.underlying49 rfl infoF) hHeld ?_
      simp only [Act.put, List.setIfInBounds_toArray, List.set_cons_zero, List.set_cons_succ]
      obtain ⟨v4, w3, w4, e1, e2, hO4, hk4, b4, hv4, hw3⟩ := appF_at wq w.heap.size (.slice ad acc.length cap) acc g HO3.out hog (by omega) hs3
      have hrow : ∀ k, Value.ownBlock (.slice ad acc.length cap) = some k → w.heap.size ≤ k := fun k hk => (HO3.out.lt k hk).1
      have hrow2 : Value.ownBlock (.slice ad acc.length cap) ≠ some wr.heap.size := fun e => by have := (HOr.out.lt _ e).2; omega
      have hbq := Has.lt HR3.out
      have hcq := HC3.out.lt
      have hnq := HN3.out.lt
      have hC4 : Has w4 c ty (upd f off (.slice ad acc.length cap)) m := by
        have := HC3.out
        unfold Has at this ⊢
        rw [hk4 c hcq (fun e => by have := hrow c e; omega)]
        exact this
      have hN4 : Has w4 wr.heap.size 49 g 4 := by
        have := HN3.out
        unfold Has at this ⊢
        rw [hk4 _ hnq hrow2]
        exact this
      have HR4 : Hid (Rd w4 b r) := hide (by
        have := HR3.out
        unfold Rd Has at this ⊢
        rw [hk4 b hbq (fun e => by have := hrow b e; omega)]
        exact this)
      have HK4 : Hid (Kp b c w w4) := hide ⟨b4.os.trans HK3.out.os, b4.tape.trans HK3.out.tape, b4.output.trans HK3.out.output, Nat.le_trans HK3.out.size b4.size, fun i hi h1 h2 => (b4.block i hi).trans (HK3.out.block i hi h1 h2)⟩
      have hS3 : Has w3 c ty (upd f off (.slice ad acc.length cap)) m ∧ Has w3 wr.heap.size 49 g 4 := by rw [hw3]; exact ⟨HC3.out.old _, HN3.out.old _⟩
      obtain ⟨ad4, cap4, rfl, _⟩ := hO4.shape
      refine readyT 5 (by kernel_rfl) rfl (by rfl) (fun K hK => ?_)
      refine wp_slice1 31 _ rfl (.agg (tabv g 4)) (by rfl) e1 (some 18) rfl ?_
      simp only [Act.put, List.setIfInBounds_toArray, List.set_cons_zero, List.set_cons_succ]
      refine hK.out _ _ (fun _ => hS3) (fun hH => ?_)
      clear hHeld
      have hHeld := hH (by decide)
      clear hK K hH
      refine readyT 6 (by kernel_rfl) rfl (by rfl) (fun K hK => ?_)
      refine wp_app _ _ _ rfl e2 (some 19) rfl ?_
      simp only [Act.put, List.setIfInBounds_toArray, List.set_cons_zero, List.set_cons_succ]
      refine hK.out _ _ (fun _ => ⟨hC4, hN4⟩) (fun hH => ?_)
      clear hHeld
      have hHeld := hH (by decide)
      clear hK K hH
      refine takeT 7 (some 20) (.pointer (some ⟨c, off, none⟩)) rfl rfl (by kernel_rfl) (by kernel_rfl) (by kernel_rfl) (by kernel_rfl) (by decide) (fun _ _ _ h => h) (by rfl) (fun w_ hw => by first | rfl | (go_simp; done) | (go_simp; rfl)) hHeld ?_
      simp only [Act.put, List.setIfInBounds_toArray, List.set_cons_zero, List.set_cons_succ]
      have c4 : w4.cell? ⟨c, off, none⟩ = some (.slice ad acc.length cap) := by rw [hC4.cell off ho]; unfold upd; rw [if_pos rfl]
      have f4 := hC4.frozen off
      have HC5 : Hid (Has (w4.setCell ⟨c, off, none⟩ (.slice ad4 (acc ++ [g]).length cap4)) c ty (upd f off (.slice ad4 (acc ++ [g]).length cap4)) m) := hide ((hC4.set off (.slice ad4 (acc ++ [g]).length cap4)).congr _ fun i hi => upd_upd f off _ _ i)
      have HR5 : Hid (Rd (w4.setCell ⟨c, off, none⟩ (.slice ad4 (acc ++ [g]).length cap4)) b r) := hide (Has.other HR4.out _ _ (fun e => hbc e.symm))
      have HK5 : Hid (Kp b c w (w4.setCell ⟨c, off, none⟩ (.slice ad4 (acc ++ [g]).length cap4))) := hide (HK4.out.trans (Kp.set _ _ _ (.inr rfl)))
      have HO5 : Hid (OwnF w.heap.size (w4.setCell ⟨c, off, none⟩ (.slice ad4 (acc ++ [g]).length cap4)) (.slice ad4 (acc ++ [g]).length cap4) (acc ++ [g])) := hide (hO4.kp (Kp.set _ ⟨c, off, none⟩ _ (.inl rfl) : Kp c c w4 _) hcl hcl)
      have hN0 := restN_eq HRr.out
      have hN5 := restN_eq HR5.out
      clear hC4 hO4 hk4 b4 hv4 hrow hS3 hN4 e1 e2 hw3
      generalize hLL : (acc ++ [g]).length = LL at HC5 HR5 HK5 HO5 hN5 ⊢
      refine readyT 8 (by kernel_rfl) rfl (by rfl) (fun K hK => ?_)
      go_simp
      refine hK.out _ _ (fun x => absurd rfl x) (fun _ => ?_)
      clear hK K hHeld
      refine ⟨by kernel_rfl, ?_⟩
      refine NoPanic.normal ?_
      go_wp2
      refine ⟨⟨acc ++ [g], r, n, _, HR5.out, HC5.out, HO5.out, HK5.out, HQ2.out, ?_, ?_, HT2.out⟩, ?_⟩
      · simp only [List.length_cons] at hlr hln; omega
      · simp only [List.length_cons, List.length_append, List.length_nil] at hlr hln hac ⊢; omega
      · simp only [List.length_cons] at hlr hN0; omega
end Go.Proofs.YtepgoehpjafbhaaGreatDoor
