/-
  The document's shelf: asked, Get.
-/
import Derived.Test.YtocojkafdgmgdaaDoorPGet
namespace Go.Proofs.YtocojkafdgmgdaaDoor
open Go.RowKit S
set_option linter.unusedVariables false
set_option linter.unusedSimpArgs false
def askedA (n : Nat) (x : Int) : Int := if 49 < n then 1 else if isN x = false then 90 else 0
theorem rasked_any (ad : Option Addr) (n cap : Nat) (x : Int) (w : World) : Calls Tryd.prog 27 #[.slice ad n cap, .int .i64 x] w fun e w' => e = .returned (.int .i64 (askedA n x)) ∧ w' = w := by
  unfold askedA
  by_cases hl : 49 < n
  · have hd : decide ((49 : Int) < (n : Int)) = true := decide_eq_true (by omega)
    rw [if_pos hl]
    go_enter Tryd.func27, Tryd.ntmps27
    go_wp2
    go_ret
    simp
  · have hd : decide ((49 : Int) < (n : Int)) = false := decide_eq_false (by omega)
    rw [if_neg hl]
    cases hx : isN x with
    | true =>
      have hx' := (isN_iff x).1 hx
      have d1 : decide (x < 0) = false := decide_eq_false (by omega)
      have d2 : decide ((281474976710655 : Int) < x) = false := decide_eq_false (by omega)
      rw [if_neg (by decide)]
      clear hx hx'
      go_enter Tryd.func27, Tryd.ntmps27
      go_wp2
      go_ret
      simp
    | false =>
      rw [if_pos rfl]
      have hx' : ¬ (0 ≤ x ∧ x ≤ 281474976710655) := fun h => by rw [(isN_iff x).2 h] at hx; cases hx
      by_cases h0 : x < 0
      · have d1 : decide (x < 0) = true := decide_eq_true h0
        clear hx hx'
        go_enter Tryd.func27, Tryd.ntmps27
        go_wp2
        go_ret
        simp
      · have d1 : decide (x < 0) = false := decide_eq_false h0
        have d2 : decide ((281474976710655 : Int) < x) = true := decide_eq_true (by omega)
        clear hx hx'
        go_enter Tryd.func27, Tryd.ntmps27
        go_wp2
        go_ret
        simp
set_option maxRecDepth 100000 in
set_option maxHeartbeats 1000000 in
theorem rget_any (ad : Option Addr) (n cap : Nat) (l : List Slot) (hn : l.length = n) (x : Int) (w : World) (hG : Glob num w) (hS : Slots w ad l) : Calls Tryd.prog 15 #[.slice ad n cap, .int .i64 x] w fun e w' => e = .returned (.tuple #[.agg (tabv (bv (getA l x).1) 32), .int .i64 (getA l x).2]) ∧ Below w.heap.size w w' := by
  obtain ⟨w3, hW⟩ : ∃ w3, w.alloc (.cells (tabv (fun _ => .int .u8 0) 32) 23) = w3 := ⟨_, rfl⟩
  have g0 : Has w3 w.heap.size 23 (fun _ => .int .u8 0) 32 := by rw [← hW]; exact Has.new w 23 (fun _ => .int .u8 0) 32 _ rfl
  have gb : Below w.heap.size w w3 := by rw [← hW]; exact (Below.refl w.heap.size w).alloc (Nat.le_refl _) _
  rw [zero32] at hW
  by_cases hA0 : askedA n x = 0
  case neg =>
    have e : getA l x = (fun _ => 0, askedA n x) := by
      unfold getA askedA at *
      rw [hn]
      by_cases h1 : 49 < n
      · rw [if_pos h1, if_pos h1]
      · rw [if_neg h1, if_neg h1]
        rw [if_neg h1] at hA0
        by_cases h2 : isN x = false
        · rw [if_pos h2, if_pos h2]
        · rw [if_neg h2] at hA0
          exact absurd rfl hA0
    rw [e]
    obtain ⟨E, hE⟩ : ∃ E, askedA n x = E := ⟨_, rfl⟩
    have AS := fun w => rasked_any ad n cap x w
    rw [hE] at AS hA0 ⊢
    have hne : (E != 0) = true := by simpa using hA0
    have AS := hide AS
    clear e hE hA0
    go_enter Tryd.func15, Tryd.ntmps15
    go_wp2_with fail
    refine (AS.out _).mono ?_
    rintro e w1 ⟨rfl, rfl⟩
    clear hW
    go_wp2_with (refine wpList_storeH rfl _ _ rfl rfl w.heap.size (fun _ => 0) rfl rfl _ g0 ?_)
    exact bodyPost_ret (resCT _ w.heap.size _ _ E 4 5 (g0.row _ (bv (fun _ => 0)) rfl) rfl rfl _ rfl) rfl ⟨rfl, below_setRow gb (Nat.le_refl _) _⟩
  have hask : ¬ 49 < n ∧ isN x = true := by
    unfold askedA at hA0
    by_cases h1 : 49 < n
    · rw [if_pos h1] at hA0; exact absurd hA0 (by decide)
    · rw [if_neg h1] at hA0
      cases hx : isN x with
      | true => exact ⟨h1, rfl⟩
      | false => rw [hx, if_pos rfl] at hA0; exact absurd hA0 (by decide)
  obtain ⟨hl, hx⟩ := hask
  have AS := fun w => rasked_any ad n cap x w
  rw [hA0] at AS
  have AS := hide AS
  clear hA0
  have e : getA l x = getK l x 49 := by
    unfold getA; rw [if_neg (by omega), if_neg (by rw [hx]; decide)]
  obtain ⟨A, hA⟩ : ∃ A, getA l x = A := ⟨_, rfl⟩
  rw [hA] at e ⊢
  have E := hide e
  clear hx e hA
  go_enter Tryd.func15, Tryd.ntmps15
  go_wp2_with fail
  refine (AS.out _).mono ?_
  rintro e w1 ⟨rfl, rfl⟩
  have k0 := g0
  have kb := gb
  clear g0 gb hW
  go_wp2
  go_loopw [7] (fun i wr => ∃ j : Nat, j ≤ 49 ∧ i = .int .i64 j ∧ Hid (A = getK l x (49 - j)) ∧ Has wr w.heap.size 23 (fun _ => .int .u8 0) 32 ∧ Below w.heap.size w wr) (fun i _ => 49 - (intOf i).toNat)
  case atStart => exact ⟨0, by omega, rfl, E, k0, kb⟩
  case round =>
    clear k0 kb E
    obtain ⟨j, hj, rfl, HJ, g1, gb⟩ := hrel
    have hSr := hS.below gb
    by_cases hlt : j < 49
    · have hd : decide ((j : Int) < 49) = true := by simp; omega
      have hk0 : (0 : Int) ≤ (j : Int) := by omega
      go_wp2_with fail
      refine (rat_any ad n cap l hn j _ hSr).mono ?_
      rintro e w5 ⟨rfl, hb5⟩
      have k1 := g1.below hb5 g1.lt
      have kb := gb.trans (hb5.mono gb.size)
      clear g1 gb hSr hb5
      obtain ⟨s, hs⟩ : ∃ s, atA l j = s := ⟨_, rfl⟩
      have HS := hide hs
      rw [hs]
      clear hs
      obtain ⟨w6, hW6⟩ : ∃ w6, w5.alloc (.cells (tabv Slot.zero.v 34) 37) = w6 := ⟨_, rfl⟩
      obtain ⟨G2, hG2⟩ : ∃ G2, w5.heap.size = G2 := ⟨_, rfl⟩
      have q1 : Has w6 G2 37 Slot.zero.v 34 := by rw [← hW6, ← hG2]; exact Has.new w5 37 Slot.zero.v 34 _ rfl
      have qb : Below w.heap.size w w6 := by rw [← hW6]; exact kb.alloc kb.size _
      have q0 : Has w6 w.heap.size 23 (fun _ => .int .u8 0) 32 := by rw [← hW6]; exact k1.old _
      have hne : w.heap.size ≠ G2 := by rw [← hG2]; exact Nat.ne_of_lt k1.lt
      have hge2 : w.heap.size ≤ G2 := by rw [← hG2]; exact kb.size
      rw [← zero34] at hW6
      have r0 := q0.row_other G2 (tabv s.v 34) hne
      have r1 := q1.row _ s.v rfl
      have rb := below_setRow qb hge2 (tabv s.v 34)
      have rG : Glob num (w6.setRow G2 (tabv s.v 34)) := hG.up rb
      clear k1 kb qb q0
      have c33 : (w6.setRow G2 (tabv s.v 34)).cell? ⟨G2, 33, none⟩ = some (.bool s.full) := r1.cell 33 (by omega)
      cases hf : s.full with
      | false =>
        rw [hf] at c33
        have hno : yieldB (atA l j) x = false := by unfold yieldB; rw [HS.out, hf]; rfl
        have HO := hide (HJ.out.trans (getK_no hlt hno))
        clear hf hno HJ
        go_wp2_with (refine wpList_storeS rfl _ _ rfl rfl G2 s rfl rfl _ q1 ?_)
        go_roundw
        case rel => exact ⟨j + 1, by omega, by go_num, HO, r0, rb⟩
        case measure => simp [intOf]; omega
      | true =>
        rw [hf] at c33
        have hok : yieldB (atA l j) x = decide ((deriveA s.sec s.idx x).2 = 0) := by unfold yieldB; rw [HS.out, hf]; rfl
        have HO := hide hok
        clear hf hok
        have c0 : (w6.setRow G2 (tabv s.v 34)).cell? ⟨G2, 0, none⟩ = some (.int .i64 s.idx) := r1.cell 0 (by omega)
        go_wp2_with (first | refine wpList_storeS rfl _ _ rfl rfl G2 s rfl rfl _ q1 ?_ | refine wpList_load_part rfl 23 _ rfl G2 1 rfl 37 _ 34 32 _ r1 (by omega) Tryd.underlying23 rfl info26 (bv s.sec) (fun i hi => s.v_sec i hi) ?_)
        clear c0
        refine (rDerive_any num s.sec s.idx x _).mono ?_
        obtain ⟨D, hD⟩ : ∃ D, deriveA s.sec s.idx x = D := ⟨_, rfl⟩
        have HD := hide hD
        rw [hD]
        clear hD
        rintro e w7 ⟨rfl, hb7⟩
        have t0 := r0.below hb7 r0.lt
        have tb := rb.trans (hb7.mono rb.size)
        clear r0 r1 rb rG hb7 q1 c33 hW6
        obtain ⟨H, e⟩ := D
        simp only
        obtain ⟨w8, hW8⟩ : ∃ w8, w7.alloc (.cells (tabv (fun _ => .int .u8 0) 32) 23) = w8 := ⟨_, rfl⟩
        obtain ⟨G3, hG3⟩ : ∃ G3, w7.heap.size = G3 := ⟨_, rfl⟩
        have p1 : Has w8 G3 23 (fun _ => .int .u8 0) 32 := by rw [← hW8, ← hG3]; exact Has.new w7 23 _ 32 _ rfl
        have pb : Below w.heap.size w w8 := by rw [← hW8]; exact tb.alloc tb.size _
        have p0 : Has w8 w.heap.size 23 (fun _ => .int .u8 0) 32 := by rw [← hW8]; exact t0.old _
        have hne3 : w.heap.size ≠ G3 := by rw [← hG3]; exact Nat.ne_of_lt t0.lt
        have hge3 : w.heap.size ≤ G3 := by rw [← hG3]; exact tb.size
        rw [zero32] at hW8
        have u0 := p0.row_other G3 (tabv (bv H) 32) hne3
        have u1 := p1.row _ (bv H) rfl
        have ub := below_setRow pb hge3 (tabv (bv H) 32)
        clear t0 tb p0 pb
        by_cases he : e = 0
        · subst he
          have HA := hide (HJ.out.trans (getK_yes hlt (by rw [HO.out, HD.out]; rfl)))
          rw [HS.out, HD.out] at HA
          clear HJ HO
          go_wp2_with (first | refine wpList_storeH rfl _ _ rfl rfl G3 H rfl rfl _ p1 ?_ | refine wpList_load_part rfl 23 _ rfl G3 0 rfl 23 _ 32 32 _ u1 (by omega) Tryd.underlying23 rfl info26 (bv H) (fun i hi => by rw [Nat.zero_add]) ?_ | refine wpList_storeH rfl _ _ rfl rfl w.heap.size H rfl rfl _ u0 ?_)
          rw [HA.out]
          exact bodyPost_ret (resCT _ w.heap.size _ _ 0 4 5 (u0.row _ (bv H) rfl) rfl rfl _ rfl) rfl ⟨rfl, below_setRow ub (Nat.le_refl _) _⟩
        · have HA := hide (HJ.out.trans (getK_no hlt (by rw [HO.out, HD.out]; simpa using he)))
          clear HJ HO
          have hd2 : (e == 0) = false := by simpa using he
          go_wp2_with (refine wpList_storeH rfl _ _ rfl rfl G3 H rfl rfl _ p1 ?_)
          go_roundw
          case rel => exact ⟨j + 1, by omega, by go_num, HA, u0, ub⟩
          case measure => simp [intOf]; omega
    · have hjL : j = 49 := by omega
      subst hjL
      have hd : decide (((49 : Nat) : Int) < 49) = false := by decide
      have hA : A = (fun _ => 0, 5) := HJ.out
      clear HJ
      subst hA
      go_wp2_with (refine wpList_storeH rfl _ _ rfl rfl w.heap.size (fun _ => 0) rfl rfl _ g1 ?_)
      exact bodyPost_ret (resCT _ w.heap.size _ _ 5 4 5 (g1.row _ (bv (fun _ => 0)) rfl) rfl rfl _ rfl) rfl ⟨rfl, below_setRow gb (Nat.le_refl _) _⟩
end Go.Proofs.YtocojkafdgmgdaaDoor
