/-
  The walk of ShelfFew (printed by gen_few.py).
-/
import Derived.Test.YtocojkafdgmgdaaDoorPFewM
namespace Go.Proofs.YtocojkafdgmgdaaDoor
open Go.RowKit S
set_option linter.unusedVariables false
set_option linter.unusedSimpArgs false
set_option maxRecDepth 100000 in
set_option maxHeartbeats 4000000 in
theorem few_walk (x y : Int) (s : Nat → UInt8) (w : World) (hG : Glob num w) : Calls Tryd.prog 5 #[.int .i64 x, .int .i64 y, .agg (tabv (bv s) 32)] w fun e w' => e = .returned (.bool true) ∧ Below w.heap.size w w' := by
  obtain ⟨w0, hW0⟩ : ∃ x, w.alloc (.cells (tabv (bv s) 32) 23) = x := ⟨_, rfl⟩
  have q0 : Has w0 w.heap.size 23 (bv s) 32 := by rw [← hW0]; exact Has.new w 23 (bv s) 32 _ rfl
  have kb : Below w.heap.size w w0 := by rw [← hW0]; exact (Below.refl w.heap.size w).alloc (Nat.le_refl _) _
  have hGl : Glob num w0 := hG.below kb hG.2.2
  obtain ⟨b0, hb0⟩ : ∃ x, w.heap.size = x := ⟨_, rfl⟩
  rw [hb0] at q0
  obtain ⟨hn1, hn2⟩ := num_is x
  obtain ⟨hm1, hm2⟩ := num_is y
  obtain ⟨n, hnn⟩ : ∃ n, numA x = n := ⟨_, rfl⟩
  obtain ⟨m, hmm⟩ : ∃ m, numA y = m := ⟨_, rfl⟩
  rw [hnn] at hn1 hn2
  rw [hmm] at hm1 hm2
  clear hnn hmm
  have hL := lvl_le 48 (place n)
  have P1 := fun w => put_any none 0 0 [] rfl (n : Int) s w
  rw [put_nil n hn2 s] at P1
  have SL := sLevel_any (n : Int)
  rw [level_nat hn2] at SL
  have fg := fun c hc => few_get n c hn2 hc s
  obtain ⟨L, hLL⟩ : ∃ L, lvl (place n) 48 = L := ⟨_, rfl⟩
  rw [hLL] at hL P1 SL fg
  have lN := withA_length [] L ⟨(n : Int), s, true⟩
  obtain ⟨l, hl⟩ : ∃ l, withA [] L ⟨(n : Int), s, true⟩ = l := ⟨_, rfl⟩
  rw [hl] at lN P1 fg
  clear hl hLL
  have LN := hide lN
  have P1 := hide P1
  have SL := hide SL
  have FG := hide fg
  clear lN fg
  have hni : (n : Int) ≤ 281474976710655 := by omega
  have hmi : (m : Int) ≤ 281474976710655 := by omega
  have HL := hide hL
  have HN := hide hn2
  have HM := hide hm2
  clear hL hn2 hm2
  obtain ⟨X, hX⟩ : ∃ X, getA l ((n : Int) - (m : Int)) = X := ⟨_, rfl⟩
  have G1 := fun ad cap w => get_any ad 49 cap l LN.out ((n : Int) - (m : Int)) w
  rw [hX] at G1
  have G1 := hide G1
  have HX := hide hX
  clear hX
  obtain ⟨F, E⟩ := X
  have K0 := q0
  go_enter Tryd.func5, Tryd.ntmps5
  go_wp2_with fail
  refine (pfirst_any _ hGl).mono ?_
  rintro e w1 ⟨rfl, hb2⟩
  have q0 := q0.below hb2 q0.lt
  have hGl := hGl.up hb2
  have kb := kb.trans (hb2.mono kb.size)
  clear hb2
  clear hW0 K0
  try rw [hb0]
  have Hq0 := hide q0
  go_wp2_with (first | refine wpList_load_part rfl 23 _ rfl b0 0 rfl 23 _ 32 32 _ Hq0.out (by omega) Tryd.underlying23 rfl info26 (bv s) (fun i hi => by rw [Nat.zero_add]) ?_)
  clear Hq0
  refine (P1.out _ hGl (Slots.nil _ _)).mono ?_
  rintro e w3 ⟨⟨v1, rfl, o1⟩, hb4⟩
  have q0 := q0.below hb4 q0.lt
  have hGl := hGl.up hb4
  have kb := kb.trans (hb4.mono kb.size)
  clear hb4
  have o1 := o1.mono (Nat.zero_le _)
  obtain ⟨ad1, cap1, rfl, s1, -, -⟩ := o1.slotsN LN.out
  clear o1
  go_wp2_with fail
  refine (SL.out _).mono ?_
  rintro e w5 ⟨rfl, hb6⟩
  have q0 := q0.below hb6 q0.lt
  have s1 := s1.below hb6
  have hGl := hGl.up hb6
  have kb := kb.trans (hb6.mono kb.size)
  clear hb6
  go_wp2_with fail
  refine (G1.out _ _ _ hGl s1).mono ?_
  rintro e w7 ⟨rfl, hb8⟩
  have q0 := q0.below hb8 q0.lt
  have s1 := s1.below hb8
  have hGl := hGl.up hb8
  have kb := kb.trans (hb8.mono kb.size)
  clear hb8
  have hn11 := Has.new w7 23 (fun _ => .int .u8 0) 32 _ rfl
  rw [zero32] at hn11
  obtain ⟨b10, hb10⟩ : ∃ g, w7.heap.size = g := ⟨_, rfl⟩
  obtain ⟨w9, hz12⟩ : ∃ x, (w7.alloc (.cells (tabv (fun _ => .int .u8 0) 32) 23)).setRow w7.heap.size (tabv (bv F) 32) = x := ⟨_, rfl⟩
  have hbx : Below w7.heap.size w7 w9 := by rw [← hz12]; exact below_setRow ((Below.refl _ _).alloc (Nat.le_refl _) _) (Nat.le_refl _) _
  have q0 := q0.below hbx q0.lt
  have s1 := s1.below hbx
  have hGl := hGl.up hbx
  have kb := kb.trans (hbx.mono kb.size)
  have q1 : Has w9 b10 23 (bv F) 32 := by rw [zero32] at hz12; rw [← hz12, ← hb10]; exact hn11.row _ _ rfl
  rw [zero32] at hz12
  have Hhn11 := hide hn11
  have Hhz12 := hide hz12
  have Hhb10 := hide hb10
  clear hn11 hz12 hb10 hbx
  obtain ⟨M, hM⟩ : ∃ M : Int, (2 : Int) ^ L = M := ⟨_, rfl⟩
  have hpw : wrap64 ((2 : Int) ^ L) = M := (pow_wrap HL.out).trans hM
  have HMM := hide hM
  clear hM
  by_cases hnm : n < m
  · have hE : E = 90 := by
      have h := get_neg l (by rw [LN.out]; omega) ((n : Int) - (m : Int)) (by cases hh : isN ((n : Int) - (m : Int)) with
        | false => rfl
        | true => rw [isN_iff] at hh; omega)
      rw [HX.out] at h
      exact congrArg Prod.snd h
    subst hE
    have hd : decide (n < m) = true := by simp; omega
    clear hnm
    go_wp2_with (first | (refine wpList_storeH rfl _ _ rfl rfl w7.heap.size (F) rfl rfl _ Hhn11.out ?_; rw [Hhz12.out]))
    go_ret
    exact ⟨by simp, kb⟩
  · have hd : decide (n < m) = false := by simp; omega
    have hE : E = if n - m ≤ n ∧ n - (n - m) < 2 ^ L then 0 else 5 := by
      have h := FG.out (n - m) (by have := HN.out; omega)
      rw [show (((n - m : Nat)) : Int) = (n : Int) - (m : Int) by omega, HX.out] at h
      exact h
    rw [show n - (n - m) = m by omega] at hE
    by_cases hmL : m < 2 ^ L
    · rw [if_pos ⟨by omega, hmL⟩] at hE
      subst hE
      have hLL := HL.out
      have hd2 : decide ((m : Int) < M) = true := decide_eq_true (by rw [← HMM.out, pow_cast]; exact Int.ofNat_lt.2 hmL)
      clear hnm hmL
      go_wp2_with (first | (refine wpList_storeH rfl _ _ rfl rfl w7.heap.size (F) rfl rfl _ Hhn11.out ?_; rw [Hhz12.out]))
      go_ret
      exact ⟨by simp, kb⟩
    · rw [if_neg (fun h => hmL h.2)] at hE
      subst hE
      have hLL := HL.out
      have hd2 : decide ((m : Int) < M) = false := decide_eq_false (by rw [← HMM.out, pow_cast]; exact fun h => hmL (Int.ofNat_lt.1 h))
      clear hnm hmL
      go_wp2_with (first | (refine wpList_storeH rfl _ _ rfl rfl w7.heap.size (F) rfl rfl _ Hhn11.out ?_; rw [Hhz12.out]))
      go_ret
      exact ⟨by simp, kb⟩
end Go.Proofs.YtocojkafdgmgdaaDoor
