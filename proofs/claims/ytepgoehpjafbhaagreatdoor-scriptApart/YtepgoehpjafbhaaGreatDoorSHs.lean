/-
  script's reader: a hash.
-/
import Derived.Test.YtepgoehpjafbhaaGreatDoorSHd
import Derived.Deep.QuietTactic
import Derived.BigQuiet
import Derived.Test.YtepgoehpjafbhaaGreatDoorGLast
namespace Go.Proofs.YtepgoehpjafbhaaGreatDoor
open Go.RowKit S
set_option linter.unusedVariables false
set_option linter.unusedSimpArgs false
/-- What is asked behind a panic of one's own. -/
def Pan (X : World → Prop) (Q : Exit → Act → World → Prop) : Exit → Act → World → Prop
  | .panic c, a, w => c = [{ v := noV, recovered := false }] ∧ a.defers = [] ∧ X w
  | e, a, w => Q e a w
theorem wp_region_pan {P : Program} {id : Nat} {ops : Array Oper} {b : Bool} {Q : Exit → Act → World → Prop} {a : Act} {w : World} (X : World → Prop) (hX : ∀ a w, a.defers = [] → X w → Q (.panic [{ v := noV, recovered := false }]) a w)
    (h : (Code.region id ops b).wp P (Pan X Q) a w) : (Code.region id ops b).wp P Q a w :=
  Code.wp_mono (fun e a w h => by
    cases e <;> first | exact h | (obtain ⟨rfl, h1, h2⟩ := h; exact hX a w h1 h2)) h
theorem splice_next (f h : Nat → Value) (o k i : Nat) (v : Value) (hv : v = h k) : upd (splice f o h k) (o + k) v i = splice f o h (k + 1) i := by
  unfold upd splice
  by_cases e : i = o + k
  · rw [if_pos e, if_pos (by omega), hv, e, Nat.add_sub_cancel_left]
  · rw [if_neg e]
    by_cases e2 : o ≤ i ∧ i < o + k
    · rw [if_pos e2, if_pos (by omega)]
    · rw [if_neg e2, if_neg (by omega)]
theorem bs_at (l : List UInt8) (i : Nat) (x : Int) (hx : x = i) (hi : x.toNat < (bs l).size) : (bs l)[x.toNat] = l[i]?.getD 0 := by
  subst hx
  rw [bs_size, Int.toNat_natCast] at hi
  rw [List.getElem?_eq_getElem hi]
  rfl
/-- The first k bytes, as far as they are digits. -/
def hexOk (wd : List UInt8) (i : Nat) : Prop := 0 ≤ valA (wd.getD (2 * i) 0) ∧ 0 ≤ valA (wd.getD (2 * i + 1) 0)
instance (wd : List UInt8) (i : Nat) : Decidable (hexOk wd i) := by unfold hexOk; infer_instance
def hexB (wd : List UInt8) (i : Nat) : UInt8 := byteA (wd.getD (2 * i) 0) (wd.getD (2 * i + 1) 0)
def hexAll (wd : List UInt8) : Bool := decide (wd.length = 64) && (List.range 32).all fun i => decide (hexOk wd i)
theorem hexAll_iff (wd : List UInt8) : hexAll wd = true ↔ wd.length = 64 ∧ ∀ i, i < 32 → hexOk wd i := by
  unfold hexAll
  rw [Bool.and_eq_true, decide_eq_true_eq, List.all_eq_true]
  exact ⟨fun h => ⟨h.1, fun i hi => by simpa using h.2 i (List.mem_range.2 hi)⟩, fun h => ⟨h.1, fun i hi => by simpa using h.2 i (List.mem_range.1 hi)⟩⟩
def hashA (l : List UInt8) : Option ((Nat → UInt8) × List UInt8) := (nextW l).bind fun x => if hexAll x.1 then some (hexB x.1, x.2) else none
set_option maxRecDepth 100000 in
set_option maxHeartbeats 800000 in
theorem hash_any (b c off m : Nat) (t : TypeId) (f : Nat → Value) (l : List UInt8) (w : World)
    (hR : Rd w b l) (hC : Has w c t f m) (ho : off + 32 ≤ m) (hbc : c ≠ b) (hl : l.length ≤ 70000) :
    Calls Tryz.prog 125 #[.pointer (some ⟨b, 0, none⟩), .pointer (some ⟨c, off, none⟩)] w fun e w' => Kp b c w w' ∧
      ((∃ h r, hashA l = some (h, r) ∧ e = .returned (.tuple #[]) ∧ Rd w' b r ∧ Has w' c t (splice f off (bv h) 32) m) ∨ (hashA l = none ∧ Bad e)) := by
  cases hn : nextW l with
  | none =>
    go_enter Tryz.func125, Tryz.ntmps125
    go_wp2_with fail
    refine (nextWord_no b l _ hR hn).mono ?_
    rintro e w1 ⟨rfl, k1⟩
    go_wp2
    exact ⟨rfl, k1.left, .inr ⟨by unfold hashA; rw [hn]; rfl, rfl⟩⟩
  | some x =>
    obtain ⟨wd, r⟩ := x
    have HN := hide hn
    have hA : hashA l = if hexAll wd then some (hexB wd, r) else none := by unfold hashA; rw [hn]; rfl
    have HA := hide hA
    clear hn hA
    have hz := bs_size wd
    go_enter Tryz.func125, Tryz.ntmps125
    go_wp2_with fail
    refine (nextWord_yes b l wd r _ hR hl HN.out).mono ?_
    rintro e w1 ⟨rfl, hR1, k1⟩
    have HC1 := hide (k1.has hC hbc hbc)
    have HK1 : Hid (Kp b c w w1) := hide k1.left
    have HR1 := hide hR1
    clear k1 hR1 hC hR
    by_cases h64 : wd.length = 64
    · have hd : ((wd.length : Int) == 64) = true := by rw [h64]; rfl
      go_wp2_with fail
      refine (require_yes _).mono ?_
      rintro e w2 ⟨rfl, rfl⟩
      go_wp2
      go_loopw [5, 12] (fun _ i wr => ∃ k : Nat, k ≤ 32 ∧ i = .int .i64 k ∧ (∀ j, j < k → hexOk wd j) ∧ Kp b c w wr ∧ Rd wr b r ∧ Has wr c t (splice f off (bv (hexB wd)) k) m) (fun _ i _ => 32 - (Lib.intOf i).toNat)
      case atStart =>
        refine ⟨0, by omega, rfl, fun j hj => absurd hj (Nat.not_lt_zero _), HK1.out, HR1.out, ?_⟩
        refine HC1.out.congr _ fun i hi => ?_
        unfold splice
        rw [if_neg (by omega)]
      case round =>
        obtain ⟨k, hk, rfl, hok, hK, hRr, hCr⟩ := hrel
        by_cases hlt : k < 32
        · have hd2 : decide ((k : Int) < 32) = true := decide_eq_true (by omega)
          go_wp2_with fail
          refine wp_region_pan (fun wx => Kp b c w wx ∧ ∃ j, j < 32 ∧ ¬ hexOk wd j) (fun a wx hdf hx => ?_) ?_
          · go_wp2
            obtain ⟨hk1, j, hj, hno⟩ := hx
            refine ⟨hdf, hk1, .inr ⟨?_, rfl⟩⟩
            rw [HA.out, if_neg]
            intro h
            exact hno (((hexAll_iff wd).1 h).2 j hj)
          · have hwk : IntKind.i64.wrap (2 * (k : Int)) = 2 * (k : Int) := by rw [IntKind.wrap_i64]; omega
            have hK0 := hide hK
            have hwk1 : IntKind.i64.wrap (2 * (k : Int) + 1) = 2 * (k : Int) + 1 := by rw [IntKind.wrap_i64]; omega
            refine wp_region_T (S := fun wx => ∃ n, wx = wr.drewN n) 14 (by kernel_rfl) ⟨1, rfl⟩ (fun hHeld => ?_)
            generalize hwd : World.drew wr = wd0 at hHeld ⊢
            refine takeT 0 (some 15) (.pointer (some ⟨c, off, none⟩)) rfl rfl (by kernel_rfl) (by kernel_rfl) (by kernel_rfl) (by kernel_rfl) (by decide) (fun _ _ _ h => h) (by rfl) (fun w_ hw => by first | rfl | (go_simp; done) | (go_simp; rfl) | (go_simp; omega)) hHeld ?_
            simp only [Act.put, List.setIfInBounds_toArray, List.set_cons_zero, List.set_cons_succ]
            refine takeT 1 (some 16) (.int .i64 k) rfl rfl (by kernel_rfl) (by kernel_rfl) (by kernel_rfl) (by kernel_rfl) (by decide) (fun _ _ _ h => h) (by rfl) (fun w_ hw => by first | rfl | (go_simp; done) | (go_simp; rfl) | (go_simp; omega)) hHeld ?_
            simp only [Act.put, List.setIfInBounds_toArray, List.set_cons_zero, List.set_cons_succ]
            refine takeT 2 (some 17) (.string (bs wd)) rfl rfl (by kernel_rfl) (by kernel_rfl) (by kernel_rfl) (by kernel_rfl) (by decide) (fun _ _ _ h => h) (by rfl) (fun w_ hw => by first | rfl | (go_simp; done) | (go_simp; rfl) | (go_simp; omega)) hHeld ?_
            simp only [Act.put, List.setIfInBounds_toArray, List.set_cons_zero, List.set_cons_succ]
            refine takeT 3 (some 18) (.int .i64 k) rfl rfl (by kernel_rfl) (by kernel_rfl) (by kernel_rfl) (by kernel_rfl) (by decide) (fun _ _ _ h => h) (by rfl) (fun w_ hw => by first | rfl | (go_simp; done) | (go_simp; rfl) | (go_simp; omega)) hHeld ?_
            simp only [Act.put, List.setIfInBounds_toArray, List.set_cons_zero, List.set_cons_succ]
            refine takeT 4 (some 19) (.int .i64 (2 * (k : Int))) rfl rfl (by kernel_rfl) (by kernel_rfl) (by kernel_rfl) (by kernel_rfl) (by decide) (fun _ _ _ h => h) (by rfl) (fun w_ hw => by go_simp) hHeld ?_
            simp only [Act.put, List.setIfInBounds_toArray, List.set_cons_zero, List.set_cons_succ]
            refine takeT 5 (some 20) (.int .u8 ((wd[2 * k]?.getD 0).toNat : Int)) rfl rfl (by kernel_rfl) (by kernel_rfl) (by kernel_rfl) (by kernel_rfl) (by decide) (fun _ _ _ h => h) (by rfl) (fun w_ hw => by go_simp; rw [dif_pos ⟨by omega, by omega⟩, bs_at wd (2 * k) (2 * (k : Int)) (by omega)]; rfl) hHeld ?_
            simp only [Act.put, List.setIfInBounds_toArray, List.set_cons_zero, List.set_cons_succ]
            refine takeT 6 (some 21) (.string (bs wd)) rfl rfl (by kernel_rfl) (by kernel_rfl) (by kernel_rfl) (by kernel_rfl) (by decide) (fun _ _ _ h => h) (by rfl) (fun w_ hw => by first | rfl | (go_simp; done) | (go_simp; rfl) | (go_simp; omega)) hHeld ?_
            simp only [Act.put, List.setIfInBounds_toArray, List.set_cons_zero, List.set_cons_succ]
            refine takeT 7 (some 22) (.int .i64 k) rfl rfl (by kernel_rfl) (by kernel_rfl) (by kernel_rfl) (by kernel_rfl) (by decide) (fun _ _ _ h => h) (by rfl) (fun w_ hw => by first | rfl | (go_simp; done) | (go_simp; rfl) | (go_simp; omega)) hHeld ?_
            simp only [Act.put, List.setIfInBounds_toArray, List.set_cons_zero, List.set_cons_succ]
            refine takeT 8 (some 23) (.int .i64 (2 * (k : Int))) rfl rfl (by kernel_rfl) (by kernel_rfl) (by kernel_rfl) (by kernel_rfl) (by decide) (fun _ _ _ h => h) (by rfl) (fun w_ hw => by go_simp) hHeld ?_
            simp only [Act.put, List.setIfInBounds_toArray, List.set_cons_zero, List.set_cons_succ]
            refine takeT 9 (some 24) (.int .i64 (2 * (k : Int) + 1)) rfl rfl (by kernel_rfl) (by kernel_rfl) (by kernel_rfl) (by kernel_rfl) (by decide) (fun _ _ _ h => h) (by rfl) (fun w_ hw => by go_simp) hHeld ?_
            simp only [Act.put, List.setIfInBounds_toArray, List.set_cons_zero, List.set_cons_succ]
            refine takeT 10 (some 25) (.int .u8 ((wd[2 * k + 1]?.getD 0).toNat : Int)) rfl rfl (by kernel_rfl) (by kernel_rfl) (by kernel_rfl) (by kernel_rfl) (by decide) (fun _ _ _ h => h) (by rfl) (fun w_ hw => by go_simp; rw [dif_pos ⟨by omega, by omega⟩, bs_at wd (2 * k + 1) (2 * (k : Int) + 1) (by omega)]; rfl) hHeld ?_
            simp only [Act.put, List.setIfInBounds_toArray, List.set_cons_zero, List.set_cons_succ]
            refine takeP [13] 12 (some 27) (.pointer (some ⟨c, off, none⟩)) rfl rfl (by kernel_rfl) (by kernel_rfl) (by kernel_rfl) (by kernel_rfl) (by kernel_rfl) (by decide) (fun _ _ _ h => h) (by rfl) (fun w_ hw => by first | rfl | (go_simp; done) | (go_simp; rfl) | (go_simp; omega)) hHeld ?_
            simp only [Act.put, List.setIfInBounds_toArray, List.set_cons_zero, List.set_cons_succ]
            refine readyT 11 (by kernel_rfl) rfl (by rfl) (fun K hK => ?_)
            go_simp
            by_cases hox : hexOk wd k
            · have hb1 := byteOf_yes (wd[2 * k]?.getD 0) (wd[2 * k + 1]?.getD 0) wd0 hox.1 hox.2
              refine hb1.mono ?_
              rintro e w3 ⟨rfl, rfl⟩
              try go_wp2_with fail
              refine hK.out _ _ (fun _ => hHeld) (fun hH => ?_)
              clear hHeld hb1
              have hHeld := hH (by decide)
              clear hK K hH
              refine takeT 13 (some 28) (.pointer (some ⟨c, off + k, none⟩)) rfl rfl (by kernel_rfl) (by kernel_rfl) (by kernel_rfl) (by kernel_rfl) (by decide) (fun _ _ _ h => h) (by rfl) (fun w_ hw => by first | rfl | (go_simp; done) | (go_simp; rfl) | (go_simp; omega)) hHeld ?_
              simp only [Act.put, List.setIfInBounds_toArray, List.set_cons_zero, List.set_cons_succ]
              obtain ⟨nd, hnd⟩ := hHeld
              have hC3 : Has w3 c t (splice f off (bv (hexB wd)) k) m := by rw [hnd]; exact hCr.drewN nd
              have c3 := hC3.cell (off + k) (by omega)
              have f3 := hC3.frozen (off + k)
              have hR3 : Rd w3 b r := by rw [hnd]; exact Has.drewN hRr nd
              have hK3 : Kp b c w w3 := by rw [hnd]; exact ⟨hK.os, hK.tape, hK.output, hK.size, hK.block⟩
              have HC4 := hide (hC3.set (off + k) (.int .u8 ((byteA (wd[2 * k]?.getD 0) (wd[2 * k + 1]?.getD 0)).toNat : Int)))
              have HR4 : Hid (Rd (w3.setCell ⟨c, off + k, none⟩ (.int .u8 ((byteA (wd[2 * k]?.getD 0) (wd[2 * k + 1]?.getD 0)).toNat : Int))) b r) := hide (Has.other hR3 _ _ (fun e => hbc e.symm))
              have HK4 : Hid (Kp b c w (w3.setCell ⟨c, off + k, none⟩ (.int .u8 ((byteA (wd[2 * k]?.getD 0) (wd[2 * k + 1]?.getD 0)).toNat : Int)))) := hide (hK3.trans (Kp.set _ _ _ (.inr rfl)))
              clear hwd hnd hC3 hR3 hK3
              refine readyT 14 (by kernel_rfl) rfl (by rfl) (fun K hK => ?_)
              go_simp
              refine hK.out _ _ (fun x => absurd rfl x) (fun _ => ?_)
              clear hK K
              refine ⟨by kernel_rfl, ?_⟩
              show Exit.inBlock 1 _ Exit.normal _ _
              go_wp2
              refine ⟨⟨k + 1, by omega, by go_num, fun j hj => ?_, HK4.out, HR4.out, ?_⟩, ?_⟩
              · rcases Nat.lt_succ_iff_lt_or_eq.1 hj with h | rfl
                · exact hok j h
                · exact hox
              · exact HC4.out.congr _ fun i hi => splice_next f (bv (hexB wd)) off k i _ (by unfold bv hexB; rw [List.getD_eq_getElem?_getD, List.getD_eq_getElem?_getD])
              · simp [Lib.intOf]; omega
            · have hno : valA (wd[2 * k]?.getD 0) < 0 ∨ valA (wd[2 * k + 1]?.getD 0) < 0 := by
                unfold hexOk at hox
                rw [List.getD_eq_getElem?_getD, List.getD_eq_getElem?_getD] at hox
                omega
              refine (byteOf_no _ _ _ hno).mono ?_
              rintro e w3 ⟨rfl, rfl⟩
              obtain ⟨nd, rfl⟩ := hHeld
              exact ⟨rfl, rfl, ⟨hK0.out.os, hK0.out.tape, hK0.out.output, hK0.out.size, hK0.out.block⟩, k, hlt, hox⟩
        · have hk32 : k = 32 := by omega
          have hd2 : decide ((k : Int) < 32) = false := decide_eq_false (by omega)
          have HA2 : Hid (hashA l = some (hexB wd, r)) := hide (by rw [HA.out, if_pos ((hexAll_iff wd).2 ⟨h64, fun i hi => hok i (by omega)⟩)])
          have HCr : Hid (Has wr c t (splice f off (bv (hexB wd)) 32) m) := hide (by rw [hk32] at hCr; exact hCr)
          have HKr := hide hK
          have HRr := hide hRr
          clear hk32 hCr hK hRr hok
          go_wp2
          go_end0
          exact ⟨HKr.out, .inl ⟨_, _, HA2.out, rfl, HRr.out, HCr.out⟩⟩
    · have hd : ((wd.length : Int) == 64) = false := by rw [beq_eq_false_iff_ne]; omega
      have hno : hashA l = none := by
        rw [HA.out, if_neg]
        intro h
        exact h64 ((hexAll_iff wd).1 h).1
      have HNo := hide hno
      clear hno
      go_wp2_with fail
      refine (require_no _).mono ?_
      rintro e w2 ⟨rfl, rfl⟩
      go_wp2
      exact ⟨rfl, HK1.out, .inr ⟨HNo.out, rfl⟩⟩
end Go.Proofs.YtepgoehpjafbhaaGreatDoor
