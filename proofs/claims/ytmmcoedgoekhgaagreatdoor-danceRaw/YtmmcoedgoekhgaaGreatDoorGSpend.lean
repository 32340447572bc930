/-
  Ledger: what is spendable, how many adds are open (printed by gen_spend.py).
-/
import Derived.Test.YtmmcoedgoekhgaaGreatDoorGMap
namespace Go.Proofs.YtmmcoedgoekhgaaGreatDoor
set_option maxRecDepth 20000
open Go.RowKit S
set_option linter.unusedVariables false
set_option linter.unusedSimpArgs false
theorem elU : Tryz.prog.underlying 27 = some (.slice (Tryz.prog.elem 27)) := by kernel_rfl
theorem elU2 : Tryz.prog.elem 27 = 34 := by kernel_rfl
theorem sizeU (w : World) : (sizeOf (Tryz.prog.elem 27)).run Tryz.prog w = .ok 36 w := by
  obtain ⟨i, h1, h2, h3, h4⟩ := infoUP
  rw [elU2]
  simp [sizeOf, typeInfo, h1, h3]
theorem add0 (x : Addr) : x.add 0 = x := by unfold Addr.add; split <;> simp_all
theorem sliceK (w : World) (ad : Option Addr) (n cap k : Nat) (hk : k ≤ cap) : (Instr.sliceAt 27 (.slice ad n cap) none (some (.int .i64 (k : Int))) none).run Tryz.prog w = .ok (.slice ad k cap) w := by
  have e := run_sliceAt_slice (P := Tryz.prog) w 27 (.slice ad n cap) none (some (.int .i64 (k : Int))) none elU
  have e2 := run_slice_h (P := Tryz.prog) w 27 ad n cap elU .i64 (k : Int) (by omega) (by omega)
  rw [e, e2, sizeU]
  simp only [Result.andThen, sliced]
  have : (if cap = 0 then ad else ad.map (·.add (0 * 36))) = ad := by
    split
    · rfl
    · cases ad <;> simp [add0]
  rw [this]; simp

/-- Amounts together of those that a test takes. -/
def sumIf (p : Upd → Bool) : List Upd → Int
  | [] => 0
  | u :: l => (if p u = true then u.amt else 0) + sumIf p l
theorem sumIf_append (p : Upd → Bool) (a b : List Upd) : sumIf p (a ++ b) = sumIf p a + sumIf p b := by
  induction a with
  | nil => simp [sumIf]
  | cons x a ih => simp only [List.cons_append, sumIf, ih]; omega
theorem sumIf_next {p : Upd → Bool} {l : List Upd} {j : Nat} {x : Upd} (h : l[j]? = some x) : sumIf p (l.take (j + 1)) = sumIf p (l.take j) + (if p x = true then x.amt else 0) := by
  rw [take_snoc h, sumIf_append]; simp [sumIf]
theorem sumIf_bd {p : Upd → Bool} (hp : ∀ u, p u = true → addB u = true) (l : List Upd) : 0 ≤ sumIf p l ∧ sumIf p l ≤ (l.length : Int) * 1152921504606846976 := by
  induction l with
  | nil => simp [sumIf]
  | cons x l ih =>
    simp only [sumIf, List.length_cons]
    by_cases h : p x = true
    · have := add_amt (hp x h)
      rw [if_pos h]
      omega
    · rw [if_neg h]
      omega
def lostB (b : List Upd) (u : Upd) : Bool := addB u && (remK b u.id != 3)
def wonB (b : List Upd) (u : Upd) : Bool := addB u && (remK b u.id == 2)
def openB (b : List Upd) (u : Upd) : Bool := addB u && (remK b u.id == 0)
theorem lost_add (b : List Upd) (u : Upd) (h : lostB b u = true) : addB u = true := by unfold lostB at h; rw [Bool.and_eq_true] at h; exact h.1
theorem won_add (b : List Upd) (u : Upd) (h : wonB b u = true) : addB u = true := by unfold wonB at h; rw [Bool.and_eq_true] at h; exact h.1
def capB (base : Int) : Int := if 1152921504606846976 < base then 1152921504606846976 else base
def leftS (base : Int) (mine others : List Upd) (fO fP : Int) : Int := capB base - sumIf (lostB (others.take (inL fP others.length))) mine + sumIf (wonB (mine.take (inL fO mine.length))) others
def spendA (base : Int) (mine others : List Upd) (fO fP : Int) : Int := if base < 0 then 0 else clampA (leftS base mine others fO fP)
def openN (mine others : List Upd) (fix : Int) : Nat := (mine.filter (openB (others.take (inL fix others.length)))).length
theorem Upds.take {w : World} {ad : Option Addr} {l : List Upd} (h : Upds w ad l) (k : Nat) : Upds w ad (l.take k) := by
  rcases h with rfl | ⟨b, o, h1, h2, h3⟩
  · exact .inl (by simp)
  · exact .inr ⟨b, o, h1, h2, fun i s hs => h3 i s (by rw [List.getElem?_take] at hs; split at hs <;> simp_all)⟩
theorem Tot.keep {S : Nat → Prop} {w w' : World} {g : Nat} {X : Int} (h : Tot w g X) (k : Keep S w w') (hS : ¬ S g) : Tot w' g X := Has.keep h k hS
theorem Tot.below {w w' : World} {g : Nat} {X : Int} (h : Tot w g X) (k : Below w.heap.size w w') : Tot w' g X := Has.below h k (Has.lt h)
theorem RMap.below {w w' : World} {b n : Nat} {f : Int → Int} (h : RMap w b n f) (k : Below w.heap.size w w') : RMap w' b n f := h.same (k.block b h.lt)
theorem RMap.keep {S : Nat → Prop} {w w' : World} {b n : Nat} {f : Int → Int} (h : RMap w b n f) (k : Keep S w w') (hS : ¬ S b) : RMap w' b n f := h.same (k.block b h.lt hS)
theorem Bd.mk' {X : Int} {n : Nat} (hn : n ≤ 4000000000000) (h : -((n : Int) * 1152921504606846976) ≤ X ∧ X ≤ ((n : Int) + 1) * 1152921504606846976) : Bd X := by unfold Bd; omega
set_option maxRecDepth 100000 in
set_option maxHeartbeats 4000000 in
theorem spend_loops (base : Int) (a1 a2 : Option Addr) (n1 c1 n2 c2 : Nat) (mine others : List Upd) (hn1 : mine.length = n1) (hn2 : others.length = n2) (z1 : n1 ≤ 1955000000000) (z2 : n2 ≤ 1955000000000) (k1 : n1 ≤ c1) (k2 : n2 ≤ c2) (fO fP : Int) (w : World) (hS1 : Upds w a1 mine) (hS2 : Upds w a2 others) (hb0 : 0 ≤ base) : Calls Tryz.prog 40 #[.int .i64 base, .slice a1 n1 c1, .slice a2 n2 c2, .agg #[.int .i64 fO, .int .i64 fP]] w fun e w' => e = .returned (.int .i64 (clampA (leftS base mine others fO fP))) ∧ Below w.heap.size w w' := by
  obtain ⟨R, hR⟩ : ∃ R, leftS base mine others fO fP = R := ⟨_, rfl⟩
  rw [hR]
  unfold leftS at hR
  rw [hn1, hn2] at hR
  obtain ⟨kO, hkO⟩ : ∃ k, inL fO n1 = k := ⟨_, rfl⟩
  obtain ⟨kP, hkP⟩ : ∃ k, inL fP n2 = k := ⟨_, rfl⟩
  rw [hkO, hkP] at hR
  have leO : kO ≤ n1 := by rw [← hkO]; exact inL_le _ _
  have leP : kP ≤ n2 := by rw [← hkP]; exact inL_le _ _
  have HR := hide hR
  have N1 := hide hn1
  have N2 := hide hn2
  have HZ : Hid (n1 ≤ 1955000000000 ∧ n2 ≤ 1955000000000) := ⟨z1, z2⟩
  have hni1 : (n1 : Int) ≤ 140737488351232 := by omega
  have hni2 : (n2 : Int) ≤ 140737488351232 := by omega
  have hwO : ∀ w, Calls Tryz.prog 94 #[.int .i64 fO, .slice a1 n1 c1] w fun e w' => e = .returned (.int .i64 (kO : Int)) ∧ w' = w := fun w => by have := within_any fO a1 n1 c1 w; rw [hkO] at this; exact this
  have hwP : ∀ w, Calls Tryz.prog 94 #[.int .i64 fP, .slice a2 n2 c2] w fun e w' => e = .returned (.int .i64 (kP : Int)) ∧ w' = w := fun w => by have := within_any fP a2 n2 c2 w; rw [hkP] at this; exact this
  have HO := hide hwO
  have HP := hide hwP
  have slO := fun w => sliceK w a1 n1 c1 kO (by omega)
  have slP := fun w => sliceK w a2 n2 c2 kP (by omega)
  have rmP := fun w hS => removals_any a2 kP c2 (others.take kP) (by rw [List.length_take]; omega) (by omega) w hS
  have rmO := fun w hS => removals_any a1 kO c1 (mine.take kO) (by rw [List.length_take]; omega) (by omega) w hS
  have RP := hide rmP
  have RO := hide rmO
  have hnb : decide (base < 0) = false := decide_eq_false (by omega)
  obtain ⟨w1, hw1⟩ : ∃ x, w.alloc (.cells #[.int .i64 fO, .int .i64 fP] 29) = x := ⟨_, rfl⟩
  have b1w : Below w.heap.size w w1 := by rw [← hw1]; exact (Below.refl _ w).alloc (Nat.le_refl _) _
  have e0 : w1.cell? ⟨w.heap.size, 0, none⟩ = some (.int .i64 fO) := by rw [← hw1]; simp
  have e1 : w1.cell? ⟨w.heap.size, 1, none⟩ = some (.int .i64 fP) := by rw [← hw1]; simp
  have lt1 : w.heap.size < w1.heap.size := by rw [← hw1]; simp
  have LT1 := hide lt1
  generalize hg0 : w.heap.size = g0 at e0 e1 LT1 lt1
  have G0 := hide hg0
  clear hR hn1 hn2 z1 z2 k1 k2 hkO hkP rmP rmO hwO hwP
  go_enter Tryz.func40, Tryz.ntmps40
  go_wp2_with (go_at_call 94; go_must (refine (HP.out _).mono ?_); rintro e wx ⟨rfl, hx⟩; obtain rfl := hx.symm; clear hx)
  refine (RP.out w1 ((hS2.below b1w).take _)).mono ?_
  rintro e w2 ⟨b1, m1, rfl, hR2, hbb1, hm1, hb2⟩
  have x0 := (hb2.cell (p := ⟨g0, 0, none⟩) lt1).trans e0
  clear e0 e1 slP HP RP
  go_wp2_with (go_at_call 94; go_must (refine (HO.out _).mono ?_); rintro e wx ⟨rfl, hx⟩; obtain rfl := hx.symm; clear hx)
  refine (RO.out w2 ((hS1.below (b1w.trans (hb2.mono b1w.size))).take _)).mono ?_
  rintro e w3 ⟨b2, m2, rfl, hR3, hbb2, hm2, hb3⟩
  clear x0 slO HO RO
  obtain ⟨w4, hw4⟩ : ∃ x, w3.alloc (.cells #[.int .i64 0, .int .i64 0] 136) = x := ⟨_, rfl⟩
  have hT0 : Tot w4 w3.heap.size 0 := by rw [← hw4]; exact Tot.new w3
  have b4 : Below w3.heap.size w3 w4 := by rw [← hw4]; exact (Below.refl _ w3).alloc (Nat.le_refl _) _
  have gb3 := ((b1w.trans (hb2.mono b1w.size)).trans (hb3.mono (Nat.le_trans b1w.size hb2.size)))
  have gb4 := gb3.trans (b4.mono gb3.size)
  have hR := (hR2.below hb3).below b4
  have hV := hR3.below b4
  have l2 := hR2.lt
  have l3 := hR3.lt
  have s3 := hb3.size
  have s1 := b1w.size
  have s2 := hb2.size
  generalize hgT : w3.heap.size = gT at hT0 l3 s3
  have hne1 : ¬ (b1 = gT) := by omega
  have hne2 : ¬ (b2 = gT) := by omega
  have hgeT : w.heap.size ≤ gT := by omega
  clear hR2 hR3 b4 hb2 hb3 l2 l3 s3 s1 s2 gb3 hbb1 hbb2
  go_wp2_with fail
  case inl =>
    have hB := h
    have eB : capB base = 1152921504606846976 := by unfold capB; rw [if_pos (by omega)]
    have cb0 : 0 ≤ capB base := by rw [eB]; omega
    have cb1 : capB base ≤ 1152921504606846976 := by rw [eB]; omega
    have CB := hide (And.intro cb0 cb1)
    refine (tplus_any gT 0 (1152921504606846976) w4 hT0 (by omega) (by omega) (by unfold Bd; omega)).mono ?_
    rintro e w5 ⟨rfl, hT, hk5⟩
    have hR5 := hR.keep hk5 hne1
    have hV5 := hV.keep hk5 hne2
    have gb := gb4.trans (hk5.below gb4.size (fun k hk e => by omega))
    rw [Int.zero_add, ← eB] at hT
    clear hR hV gb4 hk5 hT0 hB h eB cb0 cb1
    have hR := hR5
    have hV := hV5
    clear hR5 hV5
    obtain ⟨f1, hf1⟩ : ∃ f, remK (others.take kP) = f := ⟨_, rfl⟩
    obtain ⟨f2, hf2⟩ : ∃ f, remK (mine.take kO) = f := ⟨_, rfl⟩
    rw [hf1] at hR
    rw [hf2] at hV
    have HF1 := hide (fun x => congrFun hf1 x)
    have HF2 := hide (fun x => congrFun hf2 x)
    clear hf1 hf2
    go_wp2
    go_loopw [37] (fun i wr => ∃ j : Nat, j ≤ n1 ∧ i = .int .i64 (j : Int) ∧ Tot wr gT (capB base - sumIf (lostB (others.take kP)) (mine.take j)) ∧ RMap wr b1 m1 f1 ∧ RMap wr b2 m2 f2 ∧ Below w.heap.size w wr) (fun i _ => n1 - (intOf i).toNat)
    case atStart => exact ⟨0, Nat.zero_le _, rfl, by first | exact hT | (simpa [sumIf] using hT), hR, hV, gb⟩
    case round =>
      clear hT hR hV gb
      obtain ⟨j, hj, rfl, hT, hR, hV, gb⟩ := hrel
      by_cases hlt : j < n1
      · have hd : decide ((j : Int) < (n1 : Int)) = true := decide_eq_true (by omega)
        have hd2 : decide (j < n1) = true := decide_eq_true hlt
        have hk0 : (0 : Int) ≤ (j : Int) := by omega
        have hk1 : (j : Int) < (n1 : Int) := by omega
        obtain ⟨s, hs⟩ : ∃ s, mine[j]? = some s := ⟨_, List.getElem?_eq_getElem (by rw [N1.out]; exact hlt)⟩
        obtain ⟨b, o, rfl, hb1, hA⟩ := (hS1.below gb).get j s hs
        have HS := hide hs
        have HA := hide hA
        obtain ⟨w6, w7, hW6, q1, hW7, r1, rb⟩ := newU wr s
        have Q1 := hide q1
        have R7 := hide r1
        have c0 : w7.cell? ⟨wr.heap.size, 0, none⟩ = some (.int .i64 s.kind) := r1.cell 0 (by omega)
        have c1 : w7.cell? ⟨wr.heap.size, 1, none⟩ = some (.int .i64 s.id) := r1.cell 1 (by omega)
        have c2 : w7.cell? ⟨wr.heap.size, 2, none⟩ = some (.int .i64 s.amt) := r1.cell 2 (by omega)
        clear hs hA hb1 q1 r1
        have gb7 := gb.trans (rb.mono gb.size)
        have hT7 := hT.below rb
        have hR7 := hR.below rb
        have hV7 := hV.below rb
        have hge7 := gb7.size
        have NX := hide (sumIf_next (p := lostB (others.take kP)) HS.out)
        obtain ⟨Xj, hXj⟩ : ∃ Xj, capB base - sumIf (lostB (others.take kP)) (mine.take j) = Xj := ⟨_, rfl⟩
        have BX : Hid (Bd Xj) := by
          rw [← hXj]
          have e1 := sumIf_bd (lost_add (others.take kP)) (mine.take j)
          have e2 := List.length_take_le j mine
          have e4 := sumIf_bd (lost_add (others.take kP)) mine
          have e5 := N1.out
          have e6 := N2.out
          have e7 := CB.out
          have e8 := N1.out
          exact Bd.mk' (n := n1 + n2 + 1) (by have := HZ.out; omega) (by omega)
        rw [hXj] at hT7
        have EX := hide hXj
        generalize hgU : wr.heap.size = gU at Q1 R7 c0 c1 c2 hW7
        clear rb hR gb hT hV c0 hXj
        cases ha : addB s with
        | false =>
          have hC : Calls Tryz.prog 96 #[.agg (tabv s.v 36)] w7 fun e w' => e = .returned (.bool false) ∧ Below w7.heap.size w7 w' := by have := isAdd_any s w7; rw [ha] at this; exact this
          have HC := hide hC
          clear hC
          go_wp2_with (first | refine wpW_load_at 34 _ rfl (b) (o + j * 36) (by rfl) (by rfl) _ 36 _ (HA.out) Tryz.underlying34 rfl infoU ?_ | refine wpList_storeU rfl _ _ rfl rfl (gU) (s) rfl rfl _ Q1.out ?_ | refine wpW_load_at 34 _ rfl (gU) (0) (by rfl) (by rfl) _ 36 _ (by first | exact R7.out.at_ 0 (by omega) (fun i hi => by rw [Nat.zero_add]) | (rw [hW7]; exact R7.out.at_ 0 (by omega) (fun i hi => by rw [Nat.zero_add]))) Tryz.underlying34 rfl infoU ?_ | (go_at_call 96; go_must (refine HC.out.mono ?_); rintro e w8 ⟨rfl, hb8⟩; have d1 := (hb8.cell (p := ⟨gU, 1, none⟩) R7.out.lt).trans c1; have d2 := (hb8.cell (p := ⟨gU, 2, none⟩) R7.out.lt).trans c2; have hT8 := hT7.below hb8; have hR8 := hR7.below hb8; have hV8 := hV7.below hb8))
          go_roundw
          case rel => exact ⟨j + 1, by omega, by go_num, by rw [NX.out, if_neg (by unfold lostB; rw [ha]; simp)]; have e := EX.out; rw [show capB base - (sumIf (lostB (others.take kP)) (mine.take j) + 0) = Xj by omega]; exact hT8, hR8, hV8, gb7.trans (hb8.mono hge7)⟩
          case measure => simp [intOf]; omega
        | true =>
          have hC : Calls Tryz.prog 96 #[.agg (tabv s.v 36)] w7 fun e w' => e = .returned (.bool true) ∧ Below w7.heap.size w7 w' := by have := isAdd_any s w7; rw [ha] at this; exact this
          have HC := hide hC
          have HI0 := hide (add_id ha).1
          have HI1 := hide (add_id ha).2
          have HA0 := hide (add_amt ha).1
          have HA1 := hide (add_amt ha).2
          clear hC
          cases hf : (f1 s.id != 3) with
          | false =>
            go_wp2_with (first | refine wpW_load_at 34 _ rfl (b) (o + j * 36) (by rfl) (by rfl) _ 36 _ (HA.out) Tryz.underlying34 rfl infoU ?_ | refine wpList_storeU rfl _ _ rfl rfl (gU) (s) rfl rfl _ Q1.out ?_ | refine wpW_load_at 34 _ rfl (gU) (0) (by rfl) (by rfl) _ 36 _ (by first | exact R7.out.at_ 0 (by omega) (fun i hi => by rw [Nat.zero_add]) | (rw [hW7]; exact R7.out.at_ 0 (by omega) (fun i hi => by rw [Nat.zero_add]))) Tryz.underlying34 rfl infoU ?_ | (go_at_call 96; go_must (refine HC.out.mono ?_); rintro e w8 ⟨rfl, hb8⟩; have d1 := (hb8.cell (p := ⟨gU, 1, none⟩) R7.out.lt).trans c1; have d2 := (hb8.cell (p := ⟨gU, 2, none⟩) R7.out.lt).trans c2; have hT8 := hT7.below hb8; have hR8 := hR7.below hb8; have hV8 := hV7.below hb8; have hL := hR8.look HI0.out HI1.out))
            go_roundw
            case rel => exact ⟨j + 1, by omega, by go_num, by rw [NX.out, if_neg (by unfold lostB; rw [ha, HF1.out, hf]; simp)]; have e := EX.out; rw [show capB base - (sumIf (lostB (others.take kP)) (mine.take j) + 0) = Xj by omega]; exact hT8, hR8, hV8, gb7.trans (hb8.mono hge7)⟩
            case measure => simp [intOf]; omega
          | true =>
            go_wp2_with (first | refine wpW_load_at 34 _ rfl (b) (o + j * 36) (by rfl) (by rfl) _ 36 _ (HA.out) Tryz.underlying34 rfl infoU ?_ | refine wpList_storeU rfl _ _ rfl rfl (gU) (s) rfl rfl _ Q1.out ?_ | refine wpW_load_at 34 _ rfl (gU) (0) (by rfl) (by rfl) _ 36 _ (by first | exact R7.out.at_ 0 (by omega) (fun i hi => by rw [Nat.zero_add]) | (rw [hW7]; exact R7.out.at_ 0 (by omega) (fun i hi => by rw [Nat.zero_add]))) Tryz.underlying34 rfl infoU ?_ | (go_at_call 96; go_must (refine HC.out.mono ?_); rintro e w8 ⟨rfl, hb8⟩; have d1 := (hb8.cell (p := ⟨gU, 1, none⟩) R7.out.lt).trans c1; have d2 := (hb8.cell (p := ⟨gU, 2, none⟩) R7.out.lt).trans c2; have hT8 := hT7.below hb8; have hR8 := hR7.below hb8; have hV8 := hV7.below hb8; have hL := hR8.look HI0.out HI1.out) | (go_at_call 97; go_must (refine (tminus_any gT Xj s.amt w8 hT8 (by have := HA0.out; omega) HA1.out BX.out).mono ?_); rintro e w9 ⟨rfl, hT9, hk9⟩))
            have hge8 := hb8.size
            go_roundw
            case rel => exact ⟨j + 1, by omega, by go_num, by rw [NX.out, if_pos (by unfold lostB; rw [ha, HF1.out, hf]; rfl)]; have e := EX.out; rw [show capB base - (sumIf (lostB (others.take kP)) (mine.take j) + s.amt) = Xj - s.amt by omega]; exact hT9, hR8.keep hk9 hne1, hV8.keep hk9 hne2, (gb7.trans (hb8.mono hge7)).trans (hk9.below (by omega) (fun k hk e => by omega))⟩
            case measure => simp [intOf]; omega
      · have hjn : n1 = j := by omega
        subst hjn
        have hd : decide ((n1 : Int) < (n1 : Int)) = false := decide_eq_false (by omega)
        have hd2 : decide (n1 < n1) = false := decide_eq_false (by omega)
        rw [show mine.take n1 = mine by rw [← N1.out, List.take_length]] at hT
        go_wp2
        go_loopw [56] (fun i wr => ∃ j : Nat, j ≤ n2 ∧ i = .int .i64 (j : Int) ∧ Tot wr gT (capB base - sumIf (lostB (others.take kP)) mine + sumIf (wonB (mine.take kO)) (others.take j)) ∧ RMap wr b1 m1 f1 ∧ RMap wr b2 m2 f2 ∧ Below w.heap.size w wr) (fun i _ => n2 - (intOf i).toNat)
        case atStart => exact ⟨0, Nat.zero_le _, rfl, by first | exact hT | (simpa [sumIf] using hT), hR, hV, gb⟩
        case round =>
          clear hT hR hV gb
          obtain ⟨j, hj, rfl, hT, hR, hV, gb⟩ := hrel
          by_cases hlt : j < n2
          · have hd : decide ((j : Int) < (n2 : Int)) = true := decide_eq_true (by omega)
            have hd2 : decide (j < n2) = true := decide_eq_true hlt
            have hk0 : (0 : Int) ≤ (j : Int) := by omega
            have hk1 : (j : Int) < (n2 : Int) := by omega
            obtain ⟨s, hs⟩ : ∃ s, others[j]? = some s := ⟨_, List.getElem?_eq_getElem (by rw [N2.out]; exact hlt)⟩
            obtain ⟨b, o, rfl, hb1, hA⟩ := (hS2.below gb).get j s hs
            have HS := hide hs
            have HA := hide hA
            obtain ⟨w6, w7, hW6, q1, hW7, r1, rb⟩ := newU wr s
            have Q1 := hide q1
            have R7 := hide r1
            have c0 : w7.cell? ⟨wr.heap.size, 0, none⟩ = some (.int .i64 s.kind) := r1.cell 0 (by omega)
            have c1 : w7.cell? ⟨wr.heap.size, 1, none⟩ = some (.int .i64 s.id) := r1.cell 1 (by omega)
            have c2 : w7.cell? ⟨wr.heap.size, 2, none⟩ = some (.int .i64 s.amt) := r1.cell 2 (by omega)
            clear hs hA hb1 q1 r1
            have gb7 := gb.trans (rb.mono gb.size)
            have hT7 := hT.below rb
            have hR7 := hR.below rb
            have hV7 := hV.below rb
            have hge7 := gb7.size
            have NX := hide (sumIf_next (p := wonB (mine.take kO)) HS.out)
            obtain ⟨Xj, hXj⟩ : ∃ Xj, capB base - sumIf (lostB (others.take kP)) mine + sumIf (wonB (mine.take kO)) (others.take j) = Xj := ⟨_, rfl⟩
            have BX : Hid (Bd Xj) := by
              rw [← hXj]
              have e1 := sumIf_bd (won_add (mine.take kO)) (others.take j)
              have e2 := List.length_take_le j others
              have e4 := sumIf_bd (lost_add (others.take kP)) mine
              have e5 := N1.out
              have e6 := N2.out
              have e7 := CB.out
              have e8 := N2.out
              exact Bd.mk' (n := n1 + n2 + 1) (by have := HZ.out; omega) (by omega)
            rw [hXj] at hT7
            have EX := hide hXj
            generalize hgU : wr.heap.size = gU at Q1 R7 c0 c1 c2 hW7
            clear rb hR gb hT hV c0 hXj
            cases ha : addB s with
            | false =>
              have hC : Calls Tryz.prog 96 #[.agg (tabv s.v 36)] w7 fun e w' => e = .returned (.bool false) ∧ Below w7.heap.size w7 w' := by have := isAdd_any s w7; rw [ha] at this; exact this
              have HC := hide hC
              clear hC
              go_wp2_with (first | refine wpW_load_at 34 _ rfl (b) (o + j * 36) (by rfl) (by rfl) _ 36 _ (HA.out) Tryz.underlying34 rfl infoU ?_ | refine wpList_storeU rfl _ _ rfl rfl (gU) (s) rfl rfl _ Q1.out ?_ | refine wpW_load_at 34 _ rfl (gU) (0) (by rfl) (by rfl) _ 36 _ (by first | exact R7.out.at_ 0 (by omega) (fun i hi => by rw [Nat.zero_add]) | (rw [hW7]; exact R7.out.at_ 0 (by omega) (fun i hi => by rw [Nat.zero_add]))) Tryz.underlying34 rfl infoU ?_ | (go_at_call 96; go_must (refine HC.out.mono ?_); rintro e w8 ⟨rfl, hb8⟩; have d1 := (hb8.cell (p := ⟨gU, 1, none⟩) R7.out.lt).trans c1; have d2 := (hb8.cell (p := ⟨gU, 2, none⟩) R7.out.lt).trans c2; have hT8 := hT7.below hb8; have hR8 := hR7.below hb8; have hV8 := hV7.below hb8))
              go_roundw
              case rel => exact ⟨j + 1, by omega, by go_num, by rw [NX.out, if_neg (by unfold wonB; rw [ha]; simp)]; have e := EX.out; rw [show capB base - sumIf (lostB (others.take kP)) mine + (sumIf (wonB (mine.take kO)) (others.take j) + 0) = Xj by omega]; exact hT8, hR8, hV8, gb7.trans (hb8.mono hge7)⟩
              case measure => simp [intOf]; omega
            | true =>
              have hC : Calls Tryz.prog 96 #[.agg (tabv s.v 36)] w7 fun e w' => e = .returned (.bool true) ∧ Below w7.heap.size w7 w' := by have := isAdd_any s w7; rw [ha] at this; exact this
              have HC := hide hC
              have HI0 := hide (add_id ha).1
              have HI1 := hide (add_id ha).2
              have HA0 := hide (add_amt ha).1
              have HA1 := hide (add_amt ha).2
              clear hC
              cases hf : (f2 s.id == 2) with
              | false =>
                go_wp2_with (first | refine wpW_load_at 34 _ rfl (b) (o + j * 36) (by rfl) (by rfl) _ 36 _ (HA.out) Tryz.underlying34 rfl infoU ?_ | refine wpList_storeU rfl _ _ rfl rfl (gU) (s) rfl rfl _ Q1.out ?_ | refine wpW_load_at 34 _ rfl (gU) (0) (by rfl) (by rfl) _ 36 _ (by first | exact R7.out.at_ 0 (by omega) (fun i hi => by rw [Nat.zero_add]) | (rw [hW7]; exact R7.out.at_ 0 (by omega) (fun i hi => by rw [Nat.zero_add]))) Tryz.underlying34 rfl infoU ?_ | (go_at_call 96; go_must (refine HC.out.mono ?_); rintro e w8 ⟨rfl, hb8⟩; have d1 := (hb8.cell (p := ⟨gU, 1, none⟩) R7.out.lt).trans c1; have d2 := (hb8.cell (p := ⟨gU, 2, none⟩) R7.out.lt).trans c2; have hT8 := hT7.below hb8; have hR8 := hR7.below hb8; have hV8 := hV7.below hb8; have hL := hV8.look HI0.out HI1.out))
                go_roundw
                case rel => exact ⟨j + 1, by omega, by go_num, by rw [NX.out, if_neg (by unfold wonB; rw [ha, HF2.out, hf]; simp)]; have e := EX.out; rw [show capB base - sumIf (lostB (others.take kP)) mine + (sumIf (wonB (mine.take kO)) (others.take j) + 0) = Xj by omega]; exact hT8, hR8, hV8, gb7.trans (hb8.mono hge7)⟩
                case measure => simp [intOf]; omega
              | true =>
                go_wp2_with (first | refine wpW_load_at 34 _ rfl (b) (o + j * 36) (by rfl) (by rfl) _ 36 _ (HA.out) Tryz.underlying34 rfl infoU ?_ | refine wpList_storeU rfl _ _ rfl rfl (gU) (s) rfl rfl _ Q1.out ?_ | refine wpW_load_at 34 _ rfl (gU) (0) (by rfl) (by rfl) _ 36 _ (by first | exact R7.out.at_ 0 (by omega) (fun i hi => by rw [Nat.zero_add]) | (rw [hW7]; exact R7.out.at_ 0 (by omega) (fun i hi => by rw [Nat.zero_add]))) Tryz.underlying34 rfl infoU ?_ | (go_at_call 96; go_must (refine HC.out.mono ?_); rintro e w8 ⟨rfl, hb8⟩; have d1 := (hb8.cell (p := ⟨gU, 1, none⟩) R7.out.lt).trans c1; have d2 := (hb8.cell (p := ⟨gU, 2, none⟩) R7.out.lt).trans c2; have hT8 := hT7.below hb8; have hR8 := hR7.below hb8; have hV8 := hV7.below hb8; have hL := hV8.look HI0.out HI1.out) | (go_at_call 95; go_must (refine (tplus_any gT Xj s.amt w8 hT8 (by have := HA0.out; omega) HA1.out BX.out).mono ?_); rintro e w9 ⟨rfl, hT9, hk9⟩))
                have hge8 := hb8.size
                go_roundw
                case rel => exact ⟨j + 1, by omega, by go_num, by rw [NX.out, if_pos (by unfold wonB; rw [ha, HF2.out, hf]; rfl)]; have e := EX.out; rw [show capB base - sumIf (lostB (others.take kP)) mine + (sumIf (wonB (mine.take kO)) (others.take j) + s.amt) = Xj + s.amt by omega]; exact hT9, hR8.keep hk9 hne1, hV8.keep hk9 hne2, (gb7.trans (hb8.mono hge7)).trans (hk9.below (by omega) (fun k hk e => by omega))⟩
                case measure => simp [intOf]; omega
          · have hjn : n2 = j := by omega
            subst hjn
            have hd : decide ((n2 : Int) < (n2 : Int)) = false := decide_eq_false (by omega)
            have hd2 : decide (n2 < n2) = false := decide_eq_false (by omega)
            rw [show others.take n2 = others by rw [← N2.out, List.take_length], HR.out] at hT
            go_wp2_with fail
            refine (tnear_any gT R wr hT).mono ?_
            rintro e wz ⟨rfl, hz⟩
            obtain rfl := hz.symm
            go_wp2
            go_ret
            exact ⟨rfl, by first | exact gb | (rw [← hg0]; exact gb) | (rw [hg0] at gb; exact gb)⟩
  case inr =>
    have hB := h
    have eB : capB base = base := by unfold capB; rw [if_neg (by omega)]
    have cb0 : 0 ≤ capB base := by rw [eB]; omega
    have cb1 : capB base ≤ 1152921504606846976 := by rw [eB]; omega
    have CB := hide (And.intro cb0 cb1)
    refine (tplus_any gT 0 (base) w4 hT0 (by omega) (by omega) (by unfold Bd; omega)).mono ?_
    rintro e w5 ⟨rfl, hT, hk5⟩
    have hR5 := hR.keep hk5 hne1
    have hV5 := hV.keep hk5 hne2
    have gb := gb4.trans (hk5.below gb4.size (fun k hk e => by omega))
    rw [Int.zero_add, ← eB] at hT
    clear hR hV gb4 hk5 hT0 hB h eB cb0 cb1
    have hR := hR5
    have hV := hV5
    clear hR5 hV5
    obtain ⟨f1, hf1⟩ : ∃ f, remK (others.take kP) = f := ⟨_, rfl⟩
    obtain ⟨f2, hf2⟩ : ∃ f, remK (mine.take kO) = f := ⟨_, rfl⟩
    rw [hf1] at hR
    rw [hf2] at hV
    have HF1 := hide (fun x => congrFun hf1 x)
    have HF2 := hide (fun x => congrFun hf2 x)
    clear hf1 hf2
    go_wp2
    go_loopw [37] (fun i wr => ∃ j : Nat, j ≤ n1 ∧ i = .int .i64 (j : Int) ∧ Tot wr gT (capB base - sumIf (lostB (others.take kP)) (mine.take j)) ∧ RMap wr b1 m1 f1 ∧ RMap wr b2 m2 f2 ∧ Below w.heap.size w wr) (fun i _ => n1 - (intOf i).toNat)
    case atStart => exact ⟨0, Nat.zero_le _, rfl, by first | exact hT | (simpa [sumIf] using hT), hR, hV, gb⟩
    case round =>
      clear hT hR hV gb
      obtain ⟨j, hj, rfl, hT, hR, hV, gb⟩ := hrel
      by_cases hlt : j < n1
      · have hd : decide ((j : Int) < (n1 : Int)) = true := decide_eq_true (by omega)
        have hd2 : decide (j < n1) = true := decide_eq_true hlt
        have hk0 : (0 : Int) ≤ (j : Int) := by omega
        have hk1 : (j : Int) < (n1 : Int) := by omega
        obtain ⟨s, hs⟩ : ∃ s, mine[j]? = some s := ⟨_, List.getElem?_eq_getElem (by rw [N1.out]; exact hlt)⟩
        obtain ⟨b, o, rfl, hb1, hA⟩ := (hS1.below gb).get j s hs
        have HS := hide hs
        have HA := hide hA
        obtain ⟨w6, w7, hW6, q1, hW7, r1, rb⟩ := newU wr s
        have Q1 := hide q1
        have R7 := hide r1
        have c0 : w7.cell? ⟨wr.heap.size, 0, none⟩ = some (.int .i64 s.kind) := r1.cell 0 (by omega)
        have c1 : w7.cell? ⟨wr.heap.size, 1, none⟩ = some (.int .i64 s.id) := r1.cell 1 (by omega)
        have c2 : w7.cell? ⟨wr.heap.size, 2, none⟩ = some (.int .i64 s.amt) := r1.cell 2 (by omega)
        clear hs hA hb1 q1 r1
        have gb7 := gb.trans (rb.mono gb.size)
        have hT7 := hT.below rb
        have hR7 := hR.below rb
        have hV7 := hV.below rb
        have hge7 := gb7.size
        have NX := hide (sumIf_next (p := lostB (others.take kP)) HS.out)
        obtain ⟨Xj, hXj⟩ : ∃ Xj, capB base - sumIf (lostB (others.take kP)) (mine.take j) = Xj := ⟨_, rfl⟩
        have BX : Hid (Bd Xj) := by
          rw [← hXj]
          have e1 := sumIf_bd (lost_add (others.take kP)) (mine.take j)
          have e2 := List.length_take_le j mine
          have e4 := sumIf_bd (lost_add (others.take kP)) mine
          have e5 := N1.out
          have e6 := N2.out
          have e7 := CB.out
          have e8 := N1.out
          exact Bd.mk' (n := n1 + n2 + 1) (by have := HZ.out; omega) (by omega)
        rw [hXj] at hT7
        have EX := hide hXj
        generalize hgU : wr.heap.size = gU at Q1 R7 c0 c1 c2 hW7
        clear rb hR gb hT hV c0 hXj
        cases ha : addB s with
        | false =>
          have hC : Calls Tryz.prog 96 #[.agg (tabv s.v 36)] w7 fun e w' => e = .returned (.bool false) ∧ Below w7.heap.size w7 w' := by have := isAdd_any s w7; rw [ha] at this; exact this
          have HC := hide hC
          clear hC
          go_wp2_with (first | refine wpW_load_at 34 _ rfl (b) (o + j * 36) (by rfl) (by rfl) _ 36 _ (HA.out) Tryz.underlying34 rfl infoU ?_ | refine wpList_storeU rfl _ _ rfl rfl (gU) (s) rfl rfl _ Q1.out ?_ | refine wpW_load_at 34 _ rfl (gU) (0) (by rfl) (by rfl) _ 36 _ (by first | exact R7.out.at_ 0 (by omega) (fun i hi => by rw [Nat.zero_add]) | (rw [hW7]; exact R7.out.at_ 0 (by omega) (fun i hi => by rw [Nat.zero_add]))) Tryz.underlying34 rfl infoU ?_ | (go_at_call 96; go_must (refine HC.out.mono ?_); rintro e w8 ⟨rfl, hb8⟩; have d1 := (hb8.cell (p := ⟨gU, 1, none⟩) R7.out.lt).trans c1; have d2 := (hb8.cell (p := ⟨gU, 2, none⟩) R7.out.lt).trans c2; have hT8 := hT7.below hb8; have hR8 := hR7.below hb8; have hV8 := hV7.below hb8))
          go_roundw
          case rel => exact ⟨j + 1, by omega, by go_num, by rw [NX.out, if_neg (by unfold lostB; rw [ha]; simp)]; have e := EX.out; rw [show capB base - (sumIf (lostB (others.take kP)) (mine.take j) + 0) = Xj by omega]; exact hT8, hR8, hV8, gb7.trans (hb8.mono hge7)⟩
          case measure => simp [intOf]; omega
        | true =>
          have hC : Calls Tryz.prog 96 #[.agg (tabv s.v 36)] w7 fun e w' => e = .returned (.bool true) ∧ Below w7.heap.size w7 w' := by have := isAdd_any s w7; rw [ha] at this; exact this
          have HC := hide hC
          have HI0 := hide (add_id ha).1
          have HI1 := hide (add_id ha).2
          have HA0 := hide (add_amt ha).1
          have HA1 := hide (add_amt ha).2
          clear hC
          cases hf : (f1 s.id != 3) with
          | false =>
            go_wp2_with (first | refine wpW_load_at 34 _ rfl (b) (o + j * 36) (by rfl) (by rfl) _ 36 _ (HA.out) Tryz.underlying34 rfl infoU ?_ | refine wpList_storeU rfl _ _ rfl rfl (gU) (s) rfl rfl _ Q1.out ?_ | refine wpW_load_at 34 _ rfl (gU) (0) (by rfl) (by rfl) _ 36 _ (by first | exact R7.out.at_ 0 (by omega) (fun i hi => by rw [Nat.zero_add]) | (rw [hW7]; exact R7.out.at_ 0 (by omega) (fun i hi => by rw [Nat.zero_add]))) Tryz.underlying34 rfl infoU ?_ | (go_at_call 96; go_must (refine HC.out.mono ?_); rintro e w8 ⟨rfl, hb8⟩; have d1 := (hb8.cell (p := ⟨gU, 1, none⟩) R7.out.lt).trans c1; have d2 := (hb8.cell (p := ⟨gU, 2, none⟩) R7.out.lt).trans c2; have hT8 := hT7.below hb8; have hR8 := hR7.below hb8; have hV8 := hV7.below hb8; have hL := hR8.look HI0.out HI1.out))
            go_roundw
            case rel => exact ⟨j + 1, by omega, by go_num, by rw [NX.out, if_neg (by unfold lostB; rw [ha, HF1.out, hf]; simp)]; have e := EX.out; rw [show capB base - (sumIf (lostB (others.take kP)) (mine.take j) + 0) = Xj by omega]; exact hT8, hR8, hV8, gb7.trans (hb8.mono hge7)⟩
            case measure => simp [intOf]; omega
          | true =>
            go_wp2_with (first | refine wpW_load_at 34 _ rfl (b) (o + j * 36) (by rfl) (by rfl) _ 36 _ (HA.out) Tryz.underlying34 rfl infoU ?_ | refine wpList_storeU rfl _ _ rfl rfl (gU) (s) rfl rfl _ Q1.out ?_ | refine wpW_load_at 34 _ rfl (gU) (0) (by rfl) (by rfl) _ 36 _ (by first | exact R7.out.at_ 0 (by omega) (fun i hi => by rw [Nat.zero_add]) | (rw [hW7]; exact R7.out.at_ 0 (by omega) (fun i hi => by rw [Nat.zero_add]))) Tryz.underlying34 rfl infoU ?_ | (go_at_call 96; go_must (refine HC.out.mono ?_); rintro e w8 ⟨rfl, hb8⟩; have d1 := (hb8.cell (p := ⟨gU, 1, none⟩) R7.out.lt).trans c1; have d2 := (hb8.cell (p := ⟨gU, 2, none⟩) R7.out.lt).trans c2; have hT8 := hT7.below hb8; have hR8 := hR7.below hb8; have hV8 := hV7.below hb8; have hL := hR8.look HI0.out HI1.out) | (go_at_call 97; go_must (refine (tminus_any gT Xj s.amt w8 hT8 (by have := HA0.out; omega) HA1.out BX.out).mono ?_); rintro e w9 ⟨rfl, hT9, hk9⟩))
            have hge8 := hb8.size
            go_roundw
            case rel => exact ⟨j + 1, by omega, by go_num, by rw [NX.out, if_pos (by unfold lostB; rw [ha, HF1.out, hf]; rfl)]; have e := EX.out; rw [show capB base - (sumIf (lostB (others.take kP)) (mine.take j) + s.amt) = Xj - s.amt by omega]; exact hT9, hR8.keep hk9 hne1, hV8.keep hk9 hne2, (gb7.trans (hb8.mono hge7)).trans (hk9.below (by omega) (fun k hk e => by omega))⟩
            case measure => simp [intOf]; omega
      · have hjn : n1 = j := by omega
        subst hjn
        have hd : decide ((n1 : Int) < (n1 : Int)) = false := decide_eq_false (by omega)
        have hd2 : decide (n1 < n1) = false := decide_eq_false (by omega)
        rw [show mine.take n1 = mine by rw [← N1.out, List.take_length]] at hT
        go_wp2
        go_loopw [56] (fun i wr => ∃ j : Nat, j ≤ n2 ∧ i = .int .i64 (j : Int) ∧ Tot wr gT (capB base - sumIf (lostB (others.take kP)) mine + sumIf (wonB (mine.take kO)) (others.take j)) ∧ RMap wr b1 m1 f1 ∧ RMap wr b2 m2 f2 ∧ Below w.heap.size w wr) (fun i _ => n2 - (intOf i).toNat)
        case atStart => exact ⟨0, Nat.zero_le _, rfl, by first | exact hT | (simpa [sumIf] using hT), hR, hV, gb⟩
        case round =>
          clear hT hR hV gb
          obtain ⟨j, hj, rfl, hT, hR, hV, gb⟩ := hrel
          by_cases hlt : j < n2
          · have hd : decide ((j : Int) < (n2 : Int)) = true := decide_eq_true (by omega)
            have hd2 : decide (j < n2) = true := decide_eq_true hlt
            have hk0 : (0 : Int) ≤ (j : Int) := by omega
            have hk1 : (j : Int) < (n2 : Int) := by omega
            obtain ⟨s, hs⟩ : ∃ s, others[j]? = some s := ⟨_, List.getElem?_eq_getElem (by rw [N2.out]; exact hlt)⟩
            obtain ⟨b, o, rfl, hb1, hA⟩ := (hS2.below gb).get j s hs
            have HS := hide hs
            have HA := hide hA
            obtain ⟨w6, w7, hW6, q1, hW7, r1, rb⟩ := newU wr s
            have Q1 := hide q1
            have R7 := hide r1
            have c0 : w7.cell? ⟨wr.heap.size, 0, none⟩ = some (.int .i64 s.kind) := r1.cell 0 (by omega)
            have c1 : w7.cell? ⟨wr.heap.size, 1, none⟩ = some (.int .i64 s.id) := r1.cell 1 (by omega)
            have c2 : w7.cell? ⟨wr.heap.size, 2, none⟩ = some (.int .i64 s.amt) := r1.cell 2 (by omega)
            clear hs hA hb1 q1 r1
            have gb7 := gb.trans (rb.mono gb.size)
            have hT7 := hT.below rb
            have hR7 := hR.below rb
            have hV7 := hV.below rb
            have hge7 := gb7.size
            have NX := hide (sumIf_next (p := wonB (mine.take kO)) HS.out)
            obtain ⟨Xj, hXj⟩ : ∃ Xj, capB base - sumIf (lostB (others.take kP)) mine + sumIf (wonB (mine.take kO)) (others.take j) = Xj := ⟨_, rfl⟩
            have BX : Hid (Bd Xj) := by
              rw [← hXj]
              have e1 := sumIf_bd (won_add (mine.take kO)) (others.take j)
              have e2 := List.length_take_le j others
              have e4 := sumIf_bd (lost_add (others.take kP)) mine
              have e5 := N1.out
              have e6 := N2.out
              have e7 := CB.out
              have e8 := N2.out
              exact Bd.mk' (n := n1 + n2 + 1) (by have := HZ.out; omega) (by omega)
            rw [hXj] at hT7
            have EX := hide hXj
            generalize hgU : wr.heap.size = gU at Q1 R7 c0 c1 c2 hW7
            clear rb hR gb hT hV c0 hXj
            cases ha : addB s with
            | false =>
              have hC : Calls Tryz.prog 96 #[.agg (tabv s.v 36)] w7 fun e w' => e = .returned (.bool false) ∧ Below w7.heap.size w7 w' := by have := isAdd_any s w7; rw [ha] at this; exact this
              have HC := hide hC
              clear hC
              go_wp2_with (first | refine wpW_load_at 34 _ rfl (b) (o + j * 36) (by rfl) (by rfl) _ 36 _ (HA.out) Tryz.underlying34 rfl infoU ?_ | refine wpList_storeU rfl _ _ rfl rfl (gU) (s) rfl rfl _ Q1.out ?_ | refine wpW_load_at 34 _ rfl (gU) (0) (by rfl) (by rfl) _ 36 _ (by first | exact R7.out.at_ 0 (by omega) (fun i hi => by rw [Nat.zero_add]) | (rw [hW7]; exact R7.out.at_ 0 (by omega) (fun i hi => by rw [Nat.zero_add]))) Tryz.underlying34 rfl infoU ?_ | (go_at_call 96; go_must (refine HC.out.mono ?_); rintro e w8 ⟨rfl, hb8⟩; have d1 := (hb8.cell (p := ⟨gU, 1, none⟩) R7.out.lt).trans c1; have d2 := (hb8.cell (p := ⟨gU, 2, none⟩) R7.out.lt).trans c2; have hT8 := hT7.below hb8; have hR8 := hR7.below hb8; have hV8 := hV7.below hb8))
              go_roundw
              case rel => exact ⟨j + 1, by omega, by go_num, by rw [NX.out, if_neg (by unfold wonB; rw [ha]; simp)]; have e := EX.out; rw [show capB base - sumIf (lostB (others.take kP)) mine + (sumIf (wonB (mine.take kO)) (others.take j) + 0) = Xj by omega]; exact hT8, hR8, hV8, gb7.trans (hb8.mono hge7)⟩
              case measure => simp [intOf]; omega
            | true =>
              have hC : Calls Tryz.prog 96 #[.agg (tabv s.v 36)] w7 fun e w' => e = .returned (.bool true) ∧ Below w7.heap.size w7 w' := by have := isAdd_any s w7; rw [ha] at this; exact this
              have HC := hide hC
              have HI0 := hide (add_id ha).1
              have HI1 := hide (add_id ha).2
              have HA0 := hide (add_amt ha).1
              have HA1 := hide (add_amt ha).2
              clear hC
              cases hf : (f2 s.id == 2) with
              | false =>
                go_wp2_with (first | refine wpW_load_at 34 _ rfl (b) (o + j * 36) (by rfl) (by rfl) _ 36 _ (HA.out) Tryz.underlying34 rfl infoU ?_ | refine wpList_storeU rfl _ _ rfl rfl (gU) (s) rfl rfl _ Q1.out ?_ | refine wpW_load_at 34 _ rfl (gU) (0) (by rfl) (by rfl) _ 36 _ (by first | exact R7.out.at_ 0 (by omega) (fun i hi => by rw [Nat.zero_add]) | (rw [hW7]; exact R7.out.at_ 0 (by omega) (fun i hi => by rw [Nat.zero_add]))) Tryz.underlying34 rfl infoU ?_ | (go_at_call 96; go_must (refine HC.out.mono ?_); rintro e w8 ⟨rfl, hb8⟩; have d1 := (hb8.cell (p := ⟨gU, 1, none⟩) R7.out.lt).trans c1; have d2 := (hb8.cell (p := ⟨gU, 2, none⟩) R7.out.lt).trans c2; have hT8 := hT7.below hb8; have hR8 := hR7.below hb8; have hV8 := hV7.below hb8; have hL := hV8.look HI0.out HI1.out))
                go_roundw
                case rel => exact ⟨j + 1, by omega, by go_num, by rw [NX.out, if_neg (by unfold wonB; rw [ha, HF2.out, hf]; simp)]; have e := EX.out; rw [show capB base - sumIf (lostB (others.take kP)) mine + (sumIf (wonB (mine.take kO)) (others.take j) + 0) = Xj by omega]; exact hT8, hR8, hV8, gb7.trans (hb8.mono hge7)⟩
                case measure => simp [intOf]; omega
              | true =>
                go_wp2_with (first | refine wpW_load_at 34 _ rfl (b) (o + j * 36) (by rfl) (by rfl) _ 36 _ (HA.out) Tryz.underlying34 rfl infoU ?_ | refine wpList_storeU rfl _ _ rfl rfl (gU) (s) rfl rfl _ Q1.out ?_ | refine wpW_load_at 34 _ rfl (gU) (0) (by rfl) (by rfl) _ 36 _ (by first | exact R7.out.at_ 0 (by omega) (fun i hi => by rw [Nat.zero_add]) | (rw [hW7]; exact R7.out.at_ 0 (by omega) (fun i hi => by rw [Nat.zero_add]))) Tryz.underlying34 rfl infoU ?_ | (go_at_call 96; go_must (refine HC.out.mono ?_); rintro e w8 ⟨rfl, hb8⟩; have d1 := (hb8.cell (p := ⟨gU, 1, none⟩) R7.out.lt).trans c1; have d2 := (hb8.cell (p := ⟨gU, 2, none⟩) R7.out.lt).trans c2; have hT8 := hT7.below hb8; have hR8 := hR7.below hb8; have hV8 := hV7.below hb8; have hL := hV8.look HI0.out HI1.out) | (go_at_call 95; go_must (refine (tplus_any gT Xj s.amt w8 hT8 (by have := HA0.out; omega) HA1.out BX.out).mono ?_); rintro e w9 ⟨rfl, hT9, hk9⟩))
                have hge8 := hb8.size
                go_roundw
                case rel => exact ⟨j + 1, by omega, by go_num, by rw [NX.out, if_pos (by unfold wonB; rw [ha, HF2.out, hf]; rfl)]; have e := EX.out; rw [show capB base - sumIf (lostB (others.take kP)) mine + (sumIf (wonB (mine.take kO)) (others.take j) + s.amt) = Xj + s.amt by omega]; exact hT9, hR8.keep hk9 hne1, hV8.keep hk9 hne2, (gb7.trans (hb8.mono hge7)).trans (hk9.below (by omega) (fun k hk e => by omega))⟩
                case measure => simp [intOf]; omega
          · have hjn : n2 = j := by omega
            subst hjn
            have hd : decide ((n2 : Int) < (n2 : Int)) = false := decide_eq_false (by omega)
            have hd2 : decide (n2 < n2) = false := decide_eq_false (by omega)
            rw [show others.take n2 = others by rw [← N2.out, List.take_length], HR.out] at hT
            go_wp2_with fail
            refine (tnear_any gT R wr hT).mono ?_
            rintro e wz ⟨rfl, hz⟩
            obtain rfl := hz.symm
            go_wp2
            go_ret
            exact ⟨rfl, by first | exact gb | (rw [← hg0]; exact gb) | (rw [hg0] at gb; exact gb)⟩

end Go.Proofs.YtmmcoedgoekhgaaGreatDoor
