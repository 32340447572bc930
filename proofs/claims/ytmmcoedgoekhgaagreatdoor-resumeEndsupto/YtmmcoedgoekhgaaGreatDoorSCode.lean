/-
  The code's functions (commit 8b80f2e): isOne, zeros, right, place, Point, down, Secret, Level, Derive.
-/
import Derived.Test.YtmmcoedgoekhgaaGreatDoorUBase
import Derived.Test.YtmmcoedgoekhgaaGreatDoorSLaid
import Derived.Test.YtmmcoedgoekhgaaGreatDoorSNear
import Derived.Test.YtmmcoedgoekhgaaGreatDoorSNear
namespace Go.Proofs.YtmmcoedgoekhgaaGreatDoor
set_option maxRecDepth 20000
open Go.RowKit S
set_option linter.unusedVariables false
theorem bitAnd (m : Nat) (h : m < 9223372036854775808) : bits .and .i64 (m : Int) 1 = ((m % 2 : Nat) : Int) := by
  have e : bits .and .i64 (m : Int) 1 = IntKind.i64.wrap ((BitVec.ofInt 64 (m : Int) &&& BitVec.ofInt 64 1).toNat : Int) := rfl
  have e1 : BitVec.ofInt 64 1 = BitVec.ofNat 64 1 := rfl
  rw [e, BitVec.ofInt_natCast, e1, BitVec.toNat_and, BitVec.toNat_ofNat, BitVec.toNat_ofNat, Nat.mod_eq_of_lt (by omega : m < 2 ^ 64), show (1 : Nat) % 2 ^ 64 = 1 from rfl, Nat.and_one_is_mod]
  rw [IntKind.wrap_i64]
  have : m % 2 < 2 := Nat.mod_lt _ (by omega)
  omega
theorem shrBit (p k : Nat) (h : p ≤ 281474976710655) : bits .and .i64 ((p : Int) / 2 ^ k) 1 = ((p / 2 ^ k % 2 : Nat) : Int) := by
  have e : ((p : Int) / 2 ^ k) = ((p / 2 ^ k : Nat) : Int) := by norm_cast
  rw [e]
  have := Nat.div_le_self p (2 ^ k)
  exact bitAnd _ (by omega)
-- stands in another text: belowD
theorem sisOne_any (p k : Nat) (hp : p ≤ 281474976710655) (hk : k < 48) (w : World) : Calls Tryz.prog 193 #[.int .i64 (p : Int), .int .i64 (k : Int)] w fun e w' => e = .returned (.bool (p.testBit k)) ∧ w' = w := by
  have hbit := shrBit p k hp
  have hbd := bit_div p k
  obtain ⟨b, hb⟩ : ∃ b, p / 2 ^ k % 2 = b := ⟨_, rfl⟩
  rw [hb] at hbit hbd
  have hb2 : b = 0 ∨ b = 1 := by omega
  have HBD := hide hbd
  clear hb hbd
  rcases hb2 with rfl | rfl
  · go_enter Tryz.func193, Tryz.ntmps193
    go_wp2
    go_ret
    exact ⟨by rw [HBD.out]; rfl, by first | rfl | trivial⟩
  · go_enter Tryz.func193, Tryz.ntmps193
    go_wp2
    go_ret
    exact ⟨by rw [HBD.out]; rfl, by first | rfl | trivial⟩
theorem szeros_any (p : Nat) (hp : p ≤ 281474976710655) (w : World) : Calls Tryz.prog 164 #[.int .i64 (p : Int)] w fun e w' => e = .returned (.int .i64 (lvl p 48 : Int)) ∧ w' = w := by
  go_enter Tryz.func164, Tryz.ntmps164
  go_wp2
  go_loopw [4] (fun i wr => ∃ k : Nat, k ≤ 48 ∧ i = .int .i64 k ∧ Hid (∀ i, i < k → p / 2 ^ i % 2 = 0) ∧ wr = w) (fun i _ => 48 - (intOf i).toNat)
  case atStart => exact ⟨0, by omega, rfl, hide (fun i hi => by omega), rfl⟩
  case round =>
    obtain ⟨k, hk, rfl, HZ, rfl⟩ := hrel
    by_cases hlt : k < 48
    · have hd : decide ((k : Int) < 48) = true := by simp; omega
      have hk0 : (0 : Int) ≤ (k : Int) := by omega
      go_wp2_with fail
      refine (sisOne_any p k hp hlt _).mono ?_
      rintro e w1 ⟨rfl, rfl⟩
      have hbd := bit_div p k
      obtain ⟨b, hb⟩ : ∃ b, p / 2 ^ k % 2 = b := ⟨_, rfl⟩
      rw [hb] at hbd
      have HBt := hide hb
      rw [hbd]
      have hb2 : b = 0 ∨ b = 1 := by omega
      clear hb hbd
      rcases hb2 with rfl | rfl
      · rw [show decide ((0 : Nat) = 1) = false from rfl]
        go_wp2
        go_roundw
        case rel =>
          refine ⟨k + 1, by omega, by go_num, hide (fun i hi => ?_), by first | rfl | trivial⟩
          by_cases e : i = k
          · rw [e]; exact HBt.out
          · exact HZ.out i (by omega)
        case measure => simp [intOf]; omega
      · rw [show decide ((1 : Nat) = 1) = true from rfl]
        have HL := hide (lvl_here p 48 k HZ.out hlt HBt.out)
        go_wp2
        go_ret
        exact ⟨by rw [HL.out]; rfl, by first | rfl | trivial⟩
    · have hk8 : k = 48 := by omega
      subst hk8
      have hd : decide (((48 : Nat) : Int) < 48) = false := by decide
      have HL := hide (lvl_none p 48 HZ.out)
      go_wp2
      go_ret
      exact ⟨by rw [HL.out]; rfl, by first | rfl | trivial⟩
set_option maxRecDepth 100000 in
set_option maxHeartbeats 1000000 in
theorem spoint_any (n : Num) (h : Nat → UInt8) (w : World) (hG : Glob n w) : Calls Tryz.prog 54 #[.agg (tabv (bv h) 32)] w fun e w' => e = .returned (.agg (tabv (bv (sha (listOf h))) 32)) ∧ Below w.heap.size w w' := by
  obtain ⟨w3, hW⟩ : ∃ w3, (w.alloc (.cells (tabv (bv h) 32) 23)).alloc (.cells (tabv (fun _ => .int .u8 0) 32) 23) = w3 := ⟨_, rfl⟩
  have g0 : Has w3 w.heap.size 23 (bv h) 32 := by rw [← hW]; exact (Has.new w 23 (bv h) 32 _ rfl).old _
  have g1 : Has w3 (w.heap.size + 1) 23 (fun _ => .int .u8 0) 32 := by
    rw [← hW]
    have := Has.new (w.alloc (.cells (tabv (bv h) 32) 23)) 23 (fun _ => .int .u8 0) 32 _ rfl
    rw [size_alloc] at this
    exact this
  have gb : Below w.heap.size w w3 := by rw [← hW]; exact ((Below.refl w.heap.size w).alloc (Nat.le_refl _) _).alloc (by simp) _
  have hcv := run_conv g0 32 32 (by omega)
  have hG3 : Glob n w3 := hG.up gb
  rw [zero32] at hW
  go_enter Tryz.func54, Tryz.ntmps54
  go_wp2_with fail
  have hs : Strs (w3.alloc (.cells #[.string (strOf h 32)] 9)) (some ⟨w3.heap.size, 0, none⟩) [strOf h 32] := .inr ⟨w3.heap.size, 0, rfl, by simp, fun i hi => by
    have hi' : i < 1 := hi
    match i, hi' with
    | 0, _ => rw [cell_of_row _ w3.heap.size _ _ _ (0, 0) (heap_alloc_new w3 _)]; rfl⟩
  refine (sum_any n _ _ [strOf h 32] _ (hG3.up ((Below.refl _ _).alloc (Nat.le_refl _) _)) hs (by simp [flat, strOf]) (by simp)).mono ?_
  rintro e w5 ⟨rfl, hb5⟩
  have e1 : flat [strOf h 32] = listOf h := by unfold flat strOf listOf; simp
  rw [e1]
  have hbb : Below w3.heap.size w3 w5 := (((Below.refl w3.heap.size w3).alloc (Nat.le_refl _) _).trans (hb5.mono (by simp)))
  have g1' := g1.below hbb g1.lt
  have gb' := gb.trans (hbb.mono gb.size)
  clear hW hcv hs hb5 hbb
  go_wp2_with (refine wpList_store_part rfl 23 _ _ rfl rfl (w.heap.size + 1) 0 (bv (sha (listOf h))) 32 rfl rfl 23 _ 32 g1' (by omega) info26 (fun _ _ => rfl) (bv (sha (listOf h))) (fun i hi => by unfold splice; rw [if_pos (by omega), Nat.sub_zero]) ?_)
  exact bodyPost_ret (results_cell_row rfl _ _ (w.heap.size + 1) 23 _ (0, 0) _ rfl (g1'.row _ _ rfl) Tryz.underlying23 rfl (by rw [tabv_size]; exact info26)) rfl ⟨rfl, below_setRow gb' (by omega) _⟩
set_option maxRecDepth 100000 in
set_option maxHeartbeats 2000000 in
theorem sdown_any (n : Num) (h : Nat → UInt8) (p m : Nat) (hp : p ≤ 281474976710655) (hm : m ≤ 48) (w : World) (hG : Glob n w) : Calls Tryz.prog 159 #[.agg (tabv (bv h) 32), .int .i64 (p : Int), .int .i64 (m : Int)] w fun e w' => e = .returned (.agg (tabv (bv (goDown step p m 0 h)) 32)) ∧ Below w.heap.size w w' := by
  go_enter Tryz.func159, Tryz.ntmps159
  go_wp2
  generalize hW : World.alloc (World.alloc w _) _ = w3
  have g0 : Has w3 w.heap.size 23 (bv h) 32 := by rw [← hW]; exact (Has.new w 23 (bv h) 32 _ rfl).old _
  have g1 : Has w3 (w.heap.size + 1) 23 (fun _ => .int .u8 0) 32 := by
    rw [← hW]
    have := Has.new (w.alloc (.cells (tabv (bv h) 32) 23)) 23 (fun _ => .int .u8 0) 32 _ rfl
    rw [size_alloc] at this
    exact this
  have gb : Below w.heap.size w w3 := by rw [← hW]; exact ((Below.refl w.heap.size w).alloc (Nat.le_refl _) _).alloc (by simp) _
  have hG3 : Glob n w3 := hG.up gb
  have h2 : 2 ≤ w.heap.size := hG.2.2
  clear hW
  go_loopw [10] (fun i wr => ∃ (k : Nat) (f : Nat → UInt8), k ≤ m ∧ i = .int .i64 (k : Int) ∧ goDown step p m 0 h = goDown step p (m - k) 0 f ∧ Has wr w.heap.size 23 (bv f) 32 ∧ Has wr (w.heap.size + 1) 23 (fun _ => .int .u8 0) 32 ∧ Glob n wr ∧ Below w.heap.size w wr) (fun i _ => m - (intOf i).toNat)
  case atStart => exact ⟨0, h, by omega, rfl, rfl, g0, g1, hG3, gb⟩
  case round =>
    clear g0 g1 gb hG3
    obtain ⟨k, f, hk, rfl, hgo, g0, g1, hGl, gb⟩ := hrel
    by_cases hlt : k < m
    · have dk : decide ((k : Int) < (m : Int)) = true := by simp; omega
      have dk2 : decide (k < m) = true := by simp; omega
      obtain ⟨q, hq⟩ : ∃ q, m - 1 - k = q := ⟨_, rfl⟩
      have hqi : (m : Int) - 1 - (k : Int) = (q : Int) := by omega
      have hq48 : q < 48 := by omega
      have hgo2 : goDown step p m 0 h = goDown step p q 0 (if p.testBit q then step q f else f) := by
        rw [hgo, show m - k = q + 1 by omega]
        show goDown step p q 0 (if p.testBit (0 + q) then step (0 + q) f else f) = _
        rw [Nat.zero_add]
      have hmk : m - (k + 1) = q := by omega
      have HGO := hide hgo2
      have HMK := hide hmk
      have hq0 : (0 : Int) ≤ (q : Int) := by omega
      clear hgo hgo2 hmk hq
      go_wp2_with fail
      refine (sisOne_any p q hp hq48 _).mono ?_
      rintro e w1 ⟨rfl, h1w⟩
      obtain rfl : wr = w1 := h1w.symm
      cases hb : p.testBit q with
      | false =>
        have HG2 : Hid (goDown step p m 0 h = goDown step p q 0 f) := hide (by rw [HGO.out, hb]; rfl)
        clear hb
        go_wp2
        go_roundw
        case rel => exact ⟨k + 1, f, by omega, by go_num, by rw [HMK.out]; exact HG2.out, g0, g1, hGl, gb⟩
        case measure => simp [intOf]; omega
      | true =>
        have HG2 : Hid (goDown step p m 0 h = goDown step p q 0 (step q f)) := hide (by rw [HGO.out, hb]; rfl)
        clear hb
        have c0 : wr.cell? ⟨w.heap.size, q / 8, none⟩ = some (.int .u8 ((f (q / 8)).toNat : Int)) := g0.cell (q / 8) (by omega)
        have f0 := g0.frozen (q / 8)
        obtain ⟨ws, hws⟩ : ∃ ws, wr.setCell ⟨w.heap.size, q / 8, none⟩ (.int .u8 (bits .xor .u8 ((f (q / 8)).toNat : Int) ((2 : Int) ^ (q % 8) % 256))) = ws := ⟨_, rfl⟩
        have s0 : Has ws w.heap.size 23 (bv (flipB q f)) 32 := by
          have := g0.set (q / 8) (.int .u8 ((flipB q f (q / 8)).toNat : Int))
          rw [flip_upd, ← flip_byte, hws] at this
          exact this
        have s1 : Has ws (w.heap.size + 1) 23 (fun _ => .int .u8 0) 32 := by rw [← hws]; exact g1.other _ _ (by simp)
        have sG : Glob n ws := hGl.below (by rw [← hws]; exact (Below.refl w.heap.size _).setCell (by simp) _) h2
        have sb : Below w.heap.size w ws := by rw [← hws]; exact gb.setCell (by simp) _
        clear g0 g1 gb hGl
        go_wp2
        go_region
        clear c0 f0 hws
        have s0 : Has ws.drew w.heap.size 23 (bv (flipB q f)) 32 := s0
        have s1 : Has ws.drew (w.heap.size + 1) 23 (fun _ => .int .u8 0) 32 := s1
        have sG : Glob n ws.drew := sG.up ((Below.refl _ _).drew)
        have sb : Below w.heap.size w ws.drew := sb.drew
        generalize ws.drew = ws at s0 s1 sG sb ⊢
        have hcv := run_conv s0 32 32 (by omega)
        go_wp2_with fail
        have hs : Strs (ws.alloc (.cells #[.string (strOf (flipB q f) 32)] 9)) (some ⟨ws.heap.size, 0, none⟩) [strOf (flipB q f) 32] := .inr ⟨ws.heap.size, 0, rfl, by simp, fun i hi => by
          have hi' : i < 1 := hi
          match i, hi' with
          | 0, _ => rw [cell_of_row _ ws.heap.size _ _ _ (0, 0) (heap_alloc_new ws _)]; rfl⟩
        refine (sum_any n _ _ [strOf (flipB q f) 32] _ (sG.up ((Below.refl _ _).alloc (Nat.le_refl _) _)) hs (by simp [flat, strOf]) (by simp)).mono ?_
        rintro e wt ⟨rfl, hb5⟩
        have e1 : flat [strOf (flipB q f) 32] = listOf (flipB q f) := by unfold flat strOf listOf; simp
        rw [e1]
        have hbt : Below ws.heap.size ws wt := (((Below.refl ws.heap.size ws).alloc (Nat.le_refl _) _).trans (hb5.mono (by simp)))
        have t0 := s0.below hbt s0.lt
        have t1 := s1.below hbt s1.lt
        have tG := sG.up hbt
        have tb := sb.trans (hbt.mono sb.size)
        have HT0 := hide t0
        clear s0 s1 sb sG hbt hcv hs hb5
        go_wp2_with (refine wpList_store_part rfl 23 _ _ rfl rfl w.heap.size 0 (bv (sha (listOf (flipB q f)))) 32 rfl rfl 23 _ 32 HT0.out (by omega) info26 (fun _ _ => rfl) (bv (step q f)) (fun i hi => by unfold splice; rw [if_pos (by omega), Nat.sub_zero]; rfl) ?_)
        go_roundw
        case rel => exact ⟨k + 1, step q f, by omega, by go_num, by rw [HMK.out]; exact HG2.out, t0.row _ _ rfl, t1.row_other _ _ (by omega), tG.below (below_setRow (Below.refl w.heap.size _) (Nat.le_refl _) _) h2, below_setRow tb (by omega) _⟩
        case measure => simp [intOf]; omega
    · have hkm : k = m := by omega
      subst hkm
      have dk : decide ((k : Int) < (k : Int)) = false := by simp
      have HG : Hid (goDown step p k 0 h = f) := hide (by rw [hgo, Nat.sub_self]; rfl)
      clear hgo
      go_wp2_with (first | refine wpList_load_part rfl 23 _ rfl w.heap.size 0 rfl 23 _ 32 32 _ g0 (by omega) Tryz.underlying23 rfl info26 (bv f) (fun i hi => by rw [Nat.zero_add]) ?_ | refine wpList_store_part rfl 23 _ _ rfl rfl (w.heap.size + 1) 0 (bv f) 32 rfl rfl 23 _ 32 g1 (by omega) info26 (fun _ _ => rfl) (bv f) (fun i hi => by unfold splice; rw [if_pos (by omega), Nat.sub_zero]) ?_)
      exact bodyPost_ret (results_cell_row rfl _ _ (w.heap.size + 1) 23 _ (0, 0) _ rfl (g1.row _ _ rfl) Tryz.underlying23 rfl (by rw [tabv_size]; exact info26)) rfl ⟨by rw [HG.out], below_setRow gb (by omega) _⟩
theorem sisN_any (n : Int) (w : World) : Calls Tryz.prog 158 #[.int .i64 n] w fun e w' => e = .returned (.bool (isN n)) ∧ w' = w := by
  by_cases h : 0 ≤ n
  · have e : isN n = decide (n ≤ 281474976710655) := by simp [isN, h]
    rw [e]
    go_enter Tryz.func158, Tryz.ntmps158
    go_wp2
    go_ret
    simp
  · have e : isN n = false := by simp [isN, h]
    rw [e]
    go_enter Tryz.func158, Tryz.ntmps158
    go_wp2
    go_ret
    simp
theorem splace_any (x : Int) (p : Nat) (hx : (281474976710655 : Int) - x = (p : Int)) (hp : p ≤ 281474976710655) (w : World) : Calls Tryz.prog 160 #[.int .i64 x] w fun e w' => e = .returned (.int .i64 (p : Int)) ∧ w' = w := by
  go_enter Tryz.func160, Tryz.ntmps160
  go_wp2
  go_ret
  simp
set_option maxRecDepth 100000 in
set_option maxHeartbeats 1000000 in
theorem sLevel_any (n : Int) (w : World) : Calls Tryz.prog 108 #[.int .i64 n] w fun e w' => e = .returned (.tuple #[.int .i64 (levelA n).1, .int .i64 (levelA n).2]) ∧ Below w.heap.size w w' := by
  cases h : isN n with
  | true =>
    have e : levelA n = ((lvl (place n.toNat) 48 : Int), 0) := by unfold levelA; rw [if_pos h]
    rw [e]
    obtain ⟨h1, h2⟩ := place_num h
    obtain ⟨p, hp⟩ : ∃ p, place n.toNat = p := ⟨_, rfl⟩
    rw [hp] at h1 h2 ⊢
    have hpi : (281474976710655 : Int) - n = (p : Int) := by omega
    have HH := hide h
    clear h h1 hp
    go_enter Tryz.func108, Tryz.ntmps108
    go_wp2_with fail
    refine (sisN_any _ _).mono ?_
    rintro e w1 ⟨rfl, rfl⟩
    rw [HH.out]
    go_wp2_with fail
    refine (splace_any _ p hpi h2 _).mono ?_
    rintro e w9 ⟨rfl, rfl⟩
    go_wp2_with fail
    refine (szeros_any p h2 _).mono ?_
    rintro e w2 ⟨rfl, rfl⟩
    go_wp2
    go_ret2
    exact ⟨rfl, Below.refl _ _⟩
  | false =>
    have e : levelA n = (0, 90) := by unfold levelA; rw [if_neg (by rw [h]; decide)]
    rw [e]
    go_enter Tryz.func108, Tryz.ntmps108
    go_wp2_with fail
    refine (sisN_any _ _).mono ?_
    rintro e w1 ⟨rfl, rfl⟩
    rw [h]
    go_wp2
    go_ret2
    exact ⟨rfl, Below.refl _ _⟩
set_option maxRecDepth 100000 in
set_option maxHeartbeats 2000000 in
theorem sSecret_any (n : Num) (h : Nat → UInt8) (x : Int) (w : World) (hG : Glob n w) : Calls Tryz.prog 106 #[.agg (tabv (bv h) 32), .int .i64 x] w fun e w' => e = .returned (.tuple #[.agg (tabv (bv (secretA h x).1) 32), .int .i64 (secretA h x).2]) ∧ Below w.heap.size w w' := by
  obtain ⟨w3, hW⟩ : ∃ w3, (w.alloc (.cells (tabv (bv h) 32) 23)).alloc (.cells (tabv (fun _ => .int .u8 0) 32) 23) = w3 := ⟨_, rfl⟩
  have g0 : Has w3 w.heap.size 23 (bv h) 32 := by rw [← hW]; exact (Has.new w 23 (bv h) 32 _ rfl).old _
  have g1 : Has w3 (w.heap.size + 1) 23 (fun _ => .int .u8 0) 32 := by
    rw [← hW]
    have := Has.new (w.alloc (.cells (tabv (bv h) 32) 23)) 23 (fun _ => .int .u8 0) 32 _ rfl
    rw [size_alloc] at this
    exact this
  have gb : Below w.heap.size w w3 := by rw [← hW]; exact ((Below.refl w.heap.size w).alloc (Nat.le_refl _) _).alloc (by simp) _
  have hG3 : Glob n w3 := hG.up gb
  rw [zero32] at hW
  cases hx : isN x with
  | false =>
    have e : secretA h x = (fun _ => 0, 90) := by unfold secretA; rw [if_neg (by rw [hx]; decide)]
    rw [e]
    have HX := hide hx
    clear hx e
    go_enter Tryz.func106, Tryz.ntmps106
    go_wp2_with fail
    refine (sisN_any _ _).mono ?_
    rintro e w4 ⟨rfl, rfl⟩
    rw [HX.out]
    clear hW
    go_wp2_with (refine wpList_store_part rfl 23 _ _ rfl rfl (w.heap.size + 1) 0 (bv (fun _ => 0)) 32 rfl rfl 23 _ 32 g1 (by omega) info26 (fun _ _ => rfl) (bv (fun _ => 0)) (fun i hi => by unfold splice; rw [if_pos (by omega)]; rfl) ?_)
    exact bodyPost_ret (resCT _ (w.heap.size + 1) _ _ 90 4 5 (g1.row _ (bv (fun _ => 0)) rfl) rfl rfl _ rfl) rfl ⟨rfl, below_setRow gb (by omega) _⟩
  | true =>
    have e : secretA h x = (secretOf step h x.toNat, 0) := by unfold secretA; rw [if_pos hx]
    rw [e]
    obtain ⟨h1, h2⟩ := place_num hx
    have hsec : secretOf step h x.toNat = goDown step (place x.toNat) 48 0 h := rfl
    rw [hsec]
    obtain ⟨p, hp⟩ : ∃ p, place x.toNat = p := ⟨_, rfl⟩
    rw [hp] at h1 h2 ⊢
    have hpi : (281474976710655 : Int) - x = (p : Int) := by omega
    have HX := hide hx
    clear hx e h1 hp hsec
    go_enter Tryz.func106, Tryz.ntmps106
    go_wp2_with fail
    refine (sisN_any _ _).mono ?_
    rintro e w4 ⟨rfl, rfl⟩
    rw [HX.out]
    clear hW
    have HG0 := hide g0
    go_wp2
    refine wp_region_drew_tail 3 (by kernel_rfl) (by kernel_rfl) ?_
    simp only [List.take_succ_cons, List.take_zero, List.drop_succ_cons, List.drop_zero]
    go_big_quiet_want
    refine quiet_value (fun w' hw' => run_load_part w' 23 _ rfl w.heap.size 0 rfl 23 _ 32 32 _ (by obtain ⟨m, rfl⟩ := hw'; exact HG0.out.drewN m) (by omega) Tryz.underlying23 rfl info26 (bv h) (fun i hi => by rw [Nat.zero_add])) ?_
    simp only [Act.put, List.setIfInBounds_toArray, List.set_cons_succ, List.set_cons_zero]
    go_big_quiet_on
    go_big_quiet_step (fail)
    go_big_quiet_want
    refine quiet_enter (f := 160) (args := #[.int .i64 x]) (v := .int .i64 (p : Int)) (fun w' hw' => by first | rfl | (go_simp; done) | (go_simp; rfl)) (fun w' hw' => (splace_any x p hpi h2 w').mono fun e w2 ⟨k1, k2⟩ => ⟨k1, by rw [k2]; exact hw'⟩) ?_
    simp only [Act.put, List.setIfInBounds_toArray, List.set_cons_succ, List.set_cons_zero]
    go_big_quiet_on
    refine wpQuiet_nil ?_
    intro _ hw'
    obtain ⟨nq, rfl⟩ := hw'
    have g1 := g1.drewN nq
    have hG3 := hG3.up (belowD (Below.refl _ _) nq)
    have gb := belowD gb nq
    generalize World.drewN _ nq = w3 at g1 hG3 gb ⊢
    go_wp2_with fail
    refine (sdown_any n h p 48 h2 (by omega) _ hG3).mono ?_
    rintro e w9 ⟨rfl, hb9⟩
    have k1 := g1.below hb9 g1.lt
    have kb := gb.trans (hb9.mono gb.size)
    clear g0 g1 gb hb9 HG0
    go_wp2_with (refine wpList_store_part rfl 23 _ _ rfl rfl (w.heap.size + 1) 0 (bv (goDown step p 48 0 h)) 32 rfl rfl 23 _ 32 k1 (by omega) info26 (fun _ _ => rfl) (bv (goDown step p 48 0 h)) (fun i hi => by unfold splice; rw [if_pos (by omega), Nat.sub_zero]) ?_)
    exact bodyPost_ret (resCT _ (w.heap.size + 1) _ _ 0 4 5 (k1.row _ (bv (goDown step p 48 0 h)) rfl) rfl rfl _ rfl) rfl ⟨rfl, below_setRow kb (by omega) _⟩
theorem div_cast (p l : Nat) : ((p : Int) / 2 ^ l) = ((p / 2 ^ l : Nat) : Int) := by norm_cast
set_option maxRecDepth 100000 in
set_option maxHeartbeats 4000000 in
theorem sDerive_any (n : Num) (h : Nat → UInt8) (x y : Int) (w : World) (hG : Glob n w) : Calls Tryz.prog 182 #[.agg (tabv (bv h) 32), .int .i64 x, .int .i64 y] w fun e w' => e = .returned (.tuple #[.agg (tabv (bv (deriveA h x y).1) 32), .int .i64 (deriveA h x y).2]) ∧ Below w.heap.size w w' := by
  obtain ⟨w3, hW⟩ : ∃ w3, (w.alloc (.cells (tabv (bv h) 32) 23)).alloc (.cells (tabv (fun _ => .int .u8 0) 32) 23) = w3 := ⟨_, rfl⟩
  have g0 : Has w3 w.heap.size 23 (bv h) 32 := by rw [← hW]; exact (Has.new w 23 (bv h) 32 _ rfl).old _
  have g1 : Has w3 (w.heap.size + 1) 23 (fun _ => .int .u8 0) 32 := by
    rw [← hW]
    have := Has.new (w.alloc (.cells (tabv (bv h) 32) 23)) 23 (fun _ => .int .u8 0) 32 _ rfl
    rw [size_alloc] at this
    exact this
  have gb : Below w.heap.size w w3 := by rw [← hW]; exact ((Below.refl w.heap.size w).alloc (Nat.le_refl _) _).alloc (by simp) _
  have hG3 : Glob n w3 := hG.up gb
  rw [zero32] at hW
  by_cases hx : isN x = true
  · by_cases hy : isN y = true
    · obtain ⟨h1, h2⟩ := place_num hx
      obtain ⟨h3, h4⟩ := place_num hy
      have hD : deriveA h x y = if place x.toNat / 2 ^ lvl (place x.toNat) 48 = place y.toNat / 2 ^ lvl (place x.toNat) 48 then (goDown step (place y.toNat) (lvl (place x.toNat) 48) 0 h, 0) else (fun _ => 0, 5) := by
        unfold deriveA deriveOf; rw [if_pos ⟨hx, hy⟩]
      obtain ⟨p, hp⟩ : ∃ p, place x.toNat = p := ⟨_, rfl⟩
      obtain ⟨q, hq⟩ : ∃ q, place y.toNat = q := ⟨_, rfl⟩
      rw [hp] at h1 h2
      rw [hq] at h3 h4
      rw [hp, hq] at hD
      have hl48 := lvl_le 48 p
      have HLV := szeros_any p h2
      obtain ⟨l, hl⟩ : ∃ l, lvl p 48 = l := ⟨_, rfl⟩
      rw [hl] at HLV hl48 hD
      have hpi : (281474976710655 : Int) - x = (p : Int) := by omega
      have hqi : (281474976710655 : Int) - y = (q : Int) := by omega
      have HLV := hide HLV
      have HD := hide hD
      have HX := hide hx
      have HY := hide hy
      have e1 := div_cast p l
      have e2 := div_cast q l
      obtain ⟨u, hu⟩ : ∃ u, p / 2 ^ l = u := ⟨_, rfl⟩
      obtain ⟨v, hv⟩ : ∃ v, q / 2 ^ l = v := ⟨_, rfl⟩
      rw [hu] at e1
      rw [hv] at e2
      rw [hu, hv] at HD
      clear hx hy h1 h3 hp hq hD hl hu hv
      by_cases huv : u = v
      · subst huv
        have HD2 : Hid (deriveA h x y = (goDown step q l 0 h, 0)) := hide (by rw [HD.out, if_pos rfl])
        go_enter Tryz.func182, Tryz.ntmps182
        go_wp2_with fail
        refine (sisN_any _ _).mono ?_
        rintro e w4 ⟨rfl, rfl⟩
        rw [HX.out]
        clear hW
        go_wp2_with fail
        refine (sisN_any _ _).mono ?_
        rintro e w5 ⟨rfl, rfl⟩
        rw [HY.out]
        go_wp2_with fail
        refine (splace_any x p hpi h2 _).mono ?_
        rintro e w8 ⟨rfl, rfl⟩
        go_wp2_with fail
        refine (HLV.out _).mono ?_
        rintro e w6 ⟨rfl, rfl⟩
        go_wp2_with fail
        go_quiet ((go_at_call 160; first | exact Calls.quiet_of_same (splace_any x p hpi h2 _) | exact Calls.quiet_of_same (splace_any y q hqi h4 _)))
        have g0 := g0.drewN nq
        have g1 := g1.drewN nq
        have hG3 := hG3.up (belowD (Below.refl _ _) nq)
        have gb := belowD gb nq
        generalize w6.drewN nq = w3 at g0 g1 hG3 gb ⊢
        have HG0 := hide g0
        go_wp2
        refine wp_region_drew_tail 4 (by kernel_rfl) (by kernel_rfl) ?_
        simp only [List.take_succ_cons, List.take_zero, List.drop_succ_cons, List.drop_zero]
        go_big_quiet_want
        refine quiet_value (fun w' hw' => run_load_part w' 23 _ rfl w.heap.size 0 rfl 23 _ 32 32 _ (by obtain ⟨m, rfl⟩ := hw'; exact HG0.out.drewN m) (by omega) Tryz.underlying23 rfl info26 (bv h) (fun i hi => by rw [Nat.zero_add])) ?_
        simp only [Act.put, List.setIfInBounds_toArray, List.set_cons_succ, List.set_cons_zero]
        go_big_quiet_on
        go_big_quiet_step (fail)
        go_big_quiet_want
        refine quiet_enter (f := 160) (args := #[.int .i64 y]) (v := .int .i64 (q : Int)) (fun w' hw' => by first | rfl | (go_simp; done) | (go_simp; rfl)) (fun w' hw' => (splace_any y q hqi h4 w').mono fun e w2 ⟨k1, k2⟩ => ⟨k1, by rw [k2]; exact hw'⟩) ?_
        simp only [Act.put, List.setIfInBounds_toArray, List.set_cons_succ, List.set_cons_zero]
        go_big_quiet_on
        go_big_quiet_step (fail)
        refine wpQuiet_nil ?_
        intro _ hw'
        obtain ⟨nq, rfl⟩ := hw'
        have g1 := g1.drewN nq
        have hG3 := hG3.up (belowD (Below.refl _ _) nq)
        have gb := belowD gb nq
        generalize World.drewN _ nq = w3 at g1 hG3 gb ⊢
        go_wp2_with fail
        refine (sdown_any n h q l h4 hl48 _ hG3).mono ?_
        rintro e w9 ⟨rfl, hb9⟩
        have k1 := g1.below hb9 g1.lt
        have kb := gb.trans (hb9.mono gb.size)
        clear g0 g1 gb hb9 HG0
        go_wp2_with (refine wpList_store_part rfl 23 _ _ rfl rfl (w.heap.size + 1) 0 (bv (goDown step q l 0 h)) 32 rfl rfl 23 _ 32 k1 (by omega) info26 (fun _ _ => rfl) (bv (goDown step q l 0 h)) (fun i hi => by unfold splice; rw [if_pos (by omega), Nat.sub_zero]) ?_)
        exact bodyPost_ret (resCT _ (w.heap.size + 1) _ _ 0 6 7 (k1.row _ (bv (goDown step q l 0 h)) rfl) rfl rfl _ rfl) rfl ⟨by rw [HD2.out], below_setRow kb (by omega) _⟩
      · have HD2 : Hid (deriveA h x y = (fun _ => 0, 5)) := hide (by rw [HD.out, if_neg huv])
        have q1 : ((u : Int) != (v : Int)) = true := by rw [bne_iff_ne]; omega
        have q2 : (u != v) = true := by rw [bne_iff_ne]; exact huv
        have q3 : ((u : Int) == (v : Int)) = false := by rw [beq_eq_false_iff_ne]; omega
        have q4 : (u == v) = false := by rw [beq_eq_false_iff_ne]; exact huv
        clear huv
        go_enter Tryz.func182, Tryz.ntmps182
        go_wp2_with fail
        refine (sisN_any _ _).mono ?_
        rintro e w4 ⟨rfl, rfl⟩
        rw [HX.out]
        clear hW
        go_wp2_with fail
        refine (sisN_any _ _).mono ?_
        rintro e w5 ⟨rfl, rfl⟩
        rw [HY.out]
        go_wp2_with fail
        refine (splace_any x p hpi h2 _).mono ?_
        rintro e w8 ⟨rfl, rfl⟩
        go_wp2_with fail
        refine (HLV.out _).mono ?_
        rintro e w6 ⟨rfl, rfl⟩
        go_wp2_with fail
        go_quiet ((go_at_call 160; first | exact Calls.quiet_of_same (splace_any x p hpi h2 _) | exact Calls.quiet_of_same (splace_any y q hqi h4 _)))
        have g0 := g0.drewN nq
        have g1 := g1.drewN nq
        have hG3 := hG3.up (belowD (Below.refl _ _) nq)
        have gb := belowD gb nq
        generalize w6.drewN nq = w3 at g0 g1 hG3 gb ⊢
        go_wp2_with (refine wpList_store_part rfl 23 _ _ rfl rfl (w.heap.size + 1) 0 (bv (fun _ => 0)) 32 rfl rfl 23 _ 32 g1 (by omega) info26 (fun _ _ => rfl) (bv (fun _ => 0)) (fun i hi => by unfold splice; rw [if_pos (by omega)]; rfl) ?_)
        exact bodyPost_ret (resCT _ (w.heap.size + 1) _ _ 5 6 7 (g1.row _ (bv (fun _ => 0)) rfl) rfl rfl _ rfl) rfl ⟨by rw [HD2.out], below_setRow gb (by omega) _⟩
    · have e : deriveA h x y = (fun _ => 0, 90) := by unfold deriveA; rw [if_neg (fun k => hy k.2)]
      rw [e]
      have HX := hide hx
      have HY : Hid (isN y = false) := hide (by simpa using hy)
      clear hx hy e
      go_enter Tryz.func182, Tryz.ntmps182
      go_wp2_with fail
      refine (sisN_any _ _).mono ?_
      rintro e w4 ⟨rfl, rfl⟩
      rw [HX.out]
      clear hW
      go_wp2_with fail
      refine (sisN_any _ _).mono ?_
      rintro e w5 ⟨rfl, rfl⟩
      rw [HY.out]
      go_wp2_with (refine wpList_store_part rfl 23 _ _ rfl rfl (w.heap.size + 1) 0 (bv (fun _ => 0)) 32 rfl rfl 23 _ 32 g1 (by omega) info26 (fun _ _ => rfl) (bv (fun _ => 0)) (fun i hi => by unfold splice; rw [if_pos (by omega)]; rfl) ?_)
      exact bodyPost_ret (resCT _ (w.heap.size + 1) _ _ 90 6 7 (g1.row _ (bv (fun _ => 0)) rfl) rfl rfl _ rfl) rfl ⟨rfl, below_setRow gb (by omega) _⟩
  · have e : deriveA h x y = (fun _ => 0, 90) := by unfold deriveA; rw [if_neg (fun k => hx k.1)]
    rw [e]
    have HX : Hid (isN x = false) := hide (by simpa using hx)
    clear hx e
    go_enter Tryz.func182, Tryz.ntmps182
    go_wp2_with fail
    refine (sisN_any _ _).mono ?_
    rintro e w4 ⟨rfl, rfl⟩
    rw [HX.out]
    clear hW
    go_wp2_with (refine wpList_store_part rfl 23 _ _ rfl rfl (w.heap.size + 1) 0 (bv (fun _ => 0)) 32 rfl rfl 23 _ 32 g1 (by omega) info26 (fun _ _ => rfl) (bv (fun _ => 0)) (fun i hi => by unfold splice; rw [if_pos (by omega)]; rfl) ?_)
    exact bodyPost_ret (resCT _ (w.heap.size + 1) _ _ 90 6 7 (g1.row _ (bv (fun _ => 0)) rfl) rfl rfl _ rfl) rfl ⟨rfl, below_setRow gb (by omega) _⟩
end Go.Proofs.YtmmcoedgoekhgaaGreatDoor
