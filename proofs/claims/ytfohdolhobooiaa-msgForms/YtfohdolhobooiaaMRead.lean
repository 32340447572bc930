/-
  Read of the code (printed by gen_m4.py).
-/
import Derived.Test.YtfohdolhobooiaaMMsg
namespace Go.Proofs.Ytfohdolhobooiaa
open Go.RowKit S
set_option linter.unusedVariables false
set_option linter.unusedSimpArgs false
open Cu (nb be hl ofL CW Mw CR Mr RS takeS takeA hOf nil8 num doneS)
def rdEnd (x : (Msg × Bool) × RS) : Msg × Int := if x.1.2 = true ∧ doneS x.2 = 0 ∧ idxB x.1.1.idx = true ∧ idxB x.1.1.nxt = true then (x.1.1, 0) else badM
def rdC (b : ByteArray) : Msg × Int := if (readC b).2.2 = 0 ∧ (readC b).2.1 = (b.size : Int) then (ofU (readC b).1, 0) else rdEnd (msgC (b, 0))
theorem done_of (l : List UInt8) : doneS (ofL l, 0) = 0 ↔ l.length = 0 := by
  unfold doneS
  rw [Cu.ofL_size]
  constructor
  · intro h
    by_cases e : l.length = 0
    · exact e
    · rw [if_neg e] at h; exact absurd h (by decide)
  · intro h; rw [if_pos h]
theorem done_bad : doneS (nil8, 2) ≠ 0 := by decide
theorem end_bad (m : Msg) (k : Bool) : rdEnd ((m, k), (nil8, 2)) = badM := by unfold rdEnd; rw [if_neg (fun h => done_bad h.2.1)]
theorem end_no (m : Msg) (st : RS) : rdEnd ((m, false), st) = badM := by unfold rdEnd; rw [if_neg (fun h => by cases h.1)]
theorem end_of (m : Msg) (l : List UInt8) : rdEnd ((m, true), (ofL l, 0)) = if l.length = 0 ∧ idxB m.idx = true ∧ idxB m.nxt = true then (m, 0) else badM := by
  unfold rdEnd
  by_cases h : l.length = 0
  · by_cases hh : idxB m.idx = true ∧ idxB m.nxt = true
    · rw [if_pos ⟨rfl, (done_of l).2 h, hh⟩, if_pos ⟨h, hh⟩]
    · rw [if_neg (fun k => hh k.2.2), if_neg (fun k => hh k.2)]
  · rw [if_neg (fun k => h ((done_of l).1 k.2.1)), if_neg (fun k => h k.1)]
theorem tk (r : List UInt8) (a n : Nat) (h : a + n ≤ r.length) : takeS (n : Int) (ofL (r.drop a), 0) = (ofL (r.drop (a + n)), 0) := by
  have := takeS_ok (r.drop a) n (by rw [List.length_drop]; omega)
  rwa [List.drop_drop] at this
theorem ta (r : List UInt8) (a n : Nat) (h : a + n ≤ r.length) : takeA (n : Int) (ofL (r.drop a), 0) = ofL ((r.drop a).take n) := takeA_ok (r.drop a) n (by rw [List.length_drop]; omega)
theorem tn (r : List UInt8) (a n : Nat) (h : a + n ≤ r.length) : num (n : Int) (ofL (r.drop a), 0) = be ((r.drop a).take n) := num_ok (r.drop a) n (by rw [List.length_drop]; omega)
theorem ts (r : List UInt8) (a n : Nat) (h : r.length < a + n) : takeS (n : Int) (ofL (r.drop a), 0) = (nil8, 2) ∨ r.length < a := by
  by_cases h2 : r.length < a
  · exact .inr h2
  · exact .inl (Cu.takeS_short (r.drop a) n (by rw [List.length_drop]; omega))
theorem rdE_eq (l : List UInt8) : rdEnd (msgC (ofL l, 0)) = rdO l := by
  cases l with
  | nil =>
    unfold msgC
    rw [show num 1 (ofL [], 0) = 0 from rfl]
    unfold msgR
    simp only [Int.reduceEq, if_false, Int.ofNat_zero, Int.natCast_zero, Int.cast_ofNat_Int, reduceIte]
    exact end_no _ _
  | cons c r =>
    have h1 := takeS_ok (c :: r) 1 (by simp)
    have h2 := num_ok (c :: r) 1 (by simp)
    simp only [List.drop_succ_cons, List.drop_zero, List.take_succ_cons, List.take_zero, be_one] at h1 h2
    unfold msgC
    rw [show takeS 1 (ofL (c :: r), 0) = (ofL r, 0) from h1, show num 1 (ofL (c :: r), 0) = c.toNat from h2]
    unfold msgR rdO
    dsimp only
    by_cases h8 : r.length < 8
    · rw [show takeS 8 (ofL r, 0) = (nil8, 2) from Cu.takeS_short r 8 (by omega), show takeS 32 (nil8, 2) = (nil8, 2) from takeS_bad _, show takeS 32 (nil8, 2) = (nil8, 2) from takeS_bad _, show takeS 8 (nil8, 2) = (nil8, 2) from takeS_bad _, show takeS 32 (nil8, 2) = (nil8, 2) from takeS_bad _]
      rw [if_neg (show ¬(r.length = 40 ∧ idxB (I8 r) = true) by omega), if_neg (show ¬(r.length = 72 ∧ idxB (I8 r) = true) by omega), if_neg (show ¬(r.length = 48 ∧ idxB (I8 r) = true ∧ idxB (I8 (r.drop 8)) = true) by omega), if_neg (show ¬(r.length = 8 ∧ idxB (I8 r) = true) by omega)]
      simp only [ite_self]
      repeat' split
      all_goals exact end_bad _ _
    · have s8 : takeS 8 (ofL r, 0) = (ofL (r.drop 8), 0) := takeS_ok r 8 (by omega)
      have n8 : num 8 (ofL r, 0) = be (r.take 8) := num_ok r 8 (by omega)
      rw [s8, n8]
      rw [show IntKind.i64.wrap (be (r.take 8) : Int) = I8 r from rfl]
      by_cases c4 : c = 4
      · rw [if_pos c4, if_pos (show ((c.toNat : Nat) : Int) = 4 from (u8_int c 4 (by omega)).2 c4)]
        by_cases h : r.length < 40
        · rw [show takeS 32 (ofL (r.drop 8), 0) = (nil8, 2) from Cu.takeS_short (r.drop 8) 32 (by rw [List.length_drop]; omega), end_bad, if_neg (by omega)]
        · rw [show takeS 32 (ofL (r.drop 8), 0) = (ofL (r.drop 40), 0) from tk r 8 32 (by omega), show takeA 32 (ofL (r.drop 8), 0) = _ from ta r 8 32 (by omega), hOf_ofL, end_of, List.length_drop]
          by_cases hh : r.length = 40 ∧ idxB (I8 r) = true
          · rw [if_pos hh, if_pos ⟨by omega, hh.2, rfl⟩]
          · rw [if_neg hh, if_neg (fun k => hh ⟨by omega, k.2.1⟩)]
      rw [if_neg c4, if_neg (show ¬(((c.toNat : Nat) : Int) = 4) from fun h => c4 ((u8_int c 4 (by omega)).1 h))]
      by_cases c5 : c = 5
      · rw [if_pos c5, if_pos (show ((c.toNat : Nat) : Int) = 5 from (u8_int c 5 (by omega)).2 c5)]
        by_cases h : r.length < 40
        · rw [show takeS 32 (ofL (r.drop 8), 0) = (nil8, 2) from Cu.takeS_short (r.drop 8) 32 (by rw [List.length_drop]; omega), show takeS 32 (nil8, 2) = (nil8, 2) from takeS_bad _, end_bad, if_neg (by omega)]
        · rw [show takeS 32 (ofL (r.drop 8), 0) = (ofL (r.drop 40), 0) from tk r 8 32 (by omega), show takeA 32 (ofL (r.drop 8), 0) = _ from ta r 8 32 (by omega), hOf_ofL]
          by_cases h' : r.length < 72
          · rw [show takeS 32 (ofL (r.drop 40), 0) = (nil8, 2) from Cu.takeS_short (r.drop 40) 32 (by rw [List.length_drop]; omega), end_bad, if_neg (by omega)]
          · rw [show takeS 32 (ofL (r.drop 40), 0) = (ofL (r.drop 72), 0) from tk r 40 32 (by omega), show takeA 32 (ofL (r.drop 40), 0) = _ from ta r 40 32 (by omega), hOf_ofL, end_of, List.length_drop]
            by_cases hh : r.length = 72 ∧ idxB (I8 r) = true
            · rw [if_pos hh, if_pos ⟨by omega, hh.2, rfl⟩]
            · rw [if_neg hh, if_neg (fun k => hh ⟨by omega, k.2.1⟩)]
      rw [if_neg c5, if_neg (show ¬(((c.toNat : Nat) : Int) = 5) from fun h => c5 ((u8_int c 5 (by omega)).1 h))]
      by_cases c6 : c = 6
      · rw [if_pos c6, if_pos (show ((c.toNat : Nat) : Int) = 6 from (u8_int c 6 (by omega)).2 c6)]
        by_cases h : r.length < 16
        · rw [show takeS 8 (ofL (r.drop 8), 0) = (nil8, 2) from Cu.takeS_short (r.drop 8) 8 (by rw [List.length_drop]; omega), show takeS 32 (nil8, 2) = (nil8, 2) from takeS_bad _, end_bad, if_neg (by omega)]
        · rw [show takeS 8 (ofL (r.drop 8), 0) = (ofL (r.drop 16), 0) from tk r 8 8 (by omega), show num 8 (ofL (r.drop 8), 0) = _ from tn r 8 8 (by omega)]
          rw [show IntKind.i64.wrap (be ((r.drop 8).take 8) : Int) = I8 (r.drop 8) from rfl]
          by_cases h' : r.length < 48
          · rw [show takeS 32 (ofL (r.drop 16), 0) = (nil8, 2) from Cu.takeS_short (r.drop 16) 32 (by rw [List.length_drop]; omega), end_bad, if_neg (by omega)]
          · rw [show takeS 32 (ofL (r.drop 16), 0) = (ofL (r.drop 48), 0) from tk r 16 32 (by omega), show takeA 32 (ofL (r.drop 16), 0) = _ from ta r 16 32 (by omega), hOf_ofL, end_of, List.length_drop]
            by_cases hh : r.length = 48 ∧ idxB (I8 r) = true ∧ idxB (I8 (r.drop 8)) = true
            · rw [if_pos hh, if_pos ⟨by omega, hh.2⟩]
            · rw [if_neg hh, if_neg (fun k => hh ⟨by omega, k.2⟩)]
      rw [if_neg c6, if_neg (show ¬(((c.toNat : Nat) : Int) = 6) from fun h => c6 ((u8_int c 6 (by omega)).1 h))]
      by_cases c7 : c = 7
      · rw [if_pos c7, if_pos (show ((c.toNat : Nat) : Int) = 7 from (u8_int c 7 (by omega)).2 c7), end_of, List.length_drop]
        by_cases hh : r.length = 8 ∧ idxB (I8 r) = true
        · rw [if_pos hh, if_pos ⟨by omega, hh.2, rfl⟩]
        · rw [if_neg hh, if_neg (fun k => hh ⟨by omega, k.2.1⟩)]
      rw [if_neg c7, if_neg (show ¬(((c.toNat : Nat) : Int) = 7) from fun h => c7 ((u8_int c 7 (by omega)).1 h))]
      exact end_no _ _
theorem rdC_of (b : ByteArray) : rdC b = rdM b.data.toList := by
  unfold rdC rdM
  rw [readC_of, Cu.str_len]
  have h := rdE_eq b.data.toList
  rw [Cu.ofL_of] at h
  rw [h]
set_option maxRecDepth 100000 in
set_option maxHeartbeats 4000000 in
theorem mread_any (b : ByteArray) (w : World) (hb : b.size ≤ 281474976710656) : Calls Try.prog 9 #[.string b] w fun e w' => e = .returned (.tuple #[.agg (tabv (rdC b).1.v 70), .int .i64 (rdC b).2]) ∧ Below w.heap.size w w' := by
  obtain ⟨w1, wX1, hW1, r1, _, _, _, b1⟩ := newM w Msg.zero
  have R1 := hide r1
  obtain ⟨X, hX⟩ : ∃ X, rdC b = X := ⟨_, rfl⟩
  rw [hX]
  unfold rdC at hX
  have RU := fun w => read_any b w hb
  obtain ⟨u, n, E, hu⟩ : ∃ u n E, readC b = (u, n, E) := ⟨_, _, _, rfl⟩
  simp only [hu] at RU hX
  obtain ⟨⟨⟨m, ok⟩, st⟩, hm⟩ : ∃ y, msgC (b, 0) = y := ⟨_, rfl⟩
  rw [hm] at hX
  have RM := fun (p : Nat) (w : World) (h : CR w p (b, 0)) => message_any p (b, 0) w h
  simp only [hm] at RM
  have RU := hide RU
  have RM := hide RM
  have HX := hide hX
  have HB := hide hb
  clear r1 hX hu hm hb
  go_enter Try.func9, Try.ntmps9
  go_wp2_with fail
  refine (RU.out _).mono ?_
  rintro e w2 ⟨rfl, hb2⟩
  obtain ⟨w3, w4, hW3, r3, hW4, r4, b4, b3⟩ := newU2 w2 u
  have R3 := hide r3
  have L1 : Hid (w.heap.size < w1.heap.size) := R1.out.lt
  have R4 := hide r4
  have G4 := hide ((R1.out.below hb2 R1.out.lt).below b4 (Nat.lt_of_lt_of_le R1.out.lt hb2.size))
  have gb4 : Hid (Below w.heap.size w w4) := (b1.trans (hb2.mono (Nat.le_of_lt L1.out))).trans (b4.mono (Nat.le_trans (Nat.le_of_lt L1.out) hb2.size))
  generalize hgu : w2.heap.size = gu at R3 R4 hW4 ⊢
  have L2 : Hid (w.heap.size < gu) := by show _ < _; rw [← hgu]; exact Nat.lt_of_lt_of_le L1.out hb2.size
  generalize hg2 : w.heap.size = g2 at R1 G4 gb4 L1 L2 ⊢
  clear b1 hb2 r3 r4 b4 b3 R1 RU
  go_upto_region 2 with (first | refine wpList_storeU rfl _ _ rfl rfl (gu) (u) rfl rfl _ R3.out ?_ | fail)
  try rw [hW4]
  clear hW1 hW3 hW4 R3 L1 hgu
  by_cases hE : E = 0
  · subst hE
    by_cases hN : n = (b.size : Int)
    · subst hN
      have HY : Hid (X = (ofU u, 0)) := HX.out.symm.trans (by rw [if_pos ⟨rfl, rfl⟩])
      clear HX
      go_wp2_with (first | refine wpW_load_at 34 _ rfl (gu) (0) (by rfl) (by rfl) _ 36 _ (R4.out.at_ 0 (by omega) (fun i hi => by rw [Nat.zero_add])) Try.underlying34 rfl infoU ?_ | fail)
      refine (of_any u _).mono ?_
      rintro e w5 ⟨rfl, hb5⟩
      have G5 := hide (G4.out.below hb5 G4.out.lt)
      have gb5 : Hid (Below g2 w w5) := gb4.out.trans (hb5.mono (Nat.le_of_lt G4.out.lt))
      clear hb5
      go_wp2_with (first | refine wpList_storeM rfl _ _ rfl rfl (g2) (ofU u) rfl rfl _ G5.out ?_ | fail)
      (try simp only [Exit.inBlock, Exit.then])
      exact bodyPost_ret (resMT _ g2 _ _ (.int .i64 0) 2 3 (G5.out.row _ (ofU u).v rfl) rfl rfl _ rfl) rfl ⟨by rw [HY.out], by first | exact below_setRow gb5.out (Nat.le_refl _) _ | (rw [hg2]; exact below_setRow gb5.out (Nat.le_refl _) _)⟩
    · have HY : Hid (X = rdEnd ((m, ok), st)) := HX.out.symm.trans (by rw [if_neg (fun h => hN h.2)])
      have hnb : (n == (b.size : Int)) = false := beq_false_of_ne hN
      clear HX hN
      go_wp2_with fail
      refine (Cu.rOpen b _).mono ?_
      rintro e w5 ⟨rfl, hC5, hb5, hs5⟩
      have G5 := hide (G4.out.below hb5 G4.out.lt)
      have gb5 : Hid (Below g2 w w5) := gb4.out.trans (hb5.mono (Nat.le_of_lt G4.out.lt))
      have LP : Hid (g2 < w4.heap.size) := G4.out.lt
      generalize w4.heap.size = p at hC5 LP ⊢
      obtain ⟨w6, hW6⟩ : ∃ wX, w5.alloc (.cells #[.pointer none] 55) = wX := ⟨_, rfl⟩
      obtain ⟨w7, hW7⟩ : ∃ wX, w6.setCell ⟨w5.heap.size, 0, none⟩ (.pointer (some ⟨p, 0, none⟩)) = wX := ⟨_, rfl⟩
      have q6 : Has w6 w5.heap.size 55 (fun _ => .pointer none) 1 := by rw [← hW6]; exact Has.new w5 55 (fun _ => .pointer none) 1 _ rfl
      have b6 : Below w5.heap.size w5 w6 := by rw [← hW6]; exact (Below.refl w5.heap.size w5).alloc (Nat.le_refl _) _
      have c6 : w6.cell? ⟨w5.heap.size, 0, none⟩ = some (.pointer none) := q6.cell 0 (by omega)
      have f6 := q6.frozen 0
      have r7 : Has w7 w5.heap.size 55 (fun _ => .pointer (some ⟨p, 0, none⟩)) 1 := by rw [← hW7]; exact (q6.set 0 _).congr _ (fun i hi => by match i, hi with
                                                                                                                                          | 0, _ => rfl)
      have b7 : Below w5.heap.size w5 w7 := by rw [← hW7]; exact b6.setCell (Nat.le_refl _) _
      have c7 : w7.cell? ⟨w5.heap.size, 0, none⟩ = some (.pointer (some ⟨p, 0, none⟩)) := r7.cell 0 (by omega)
      have R7 := hide r7
      have LR : Hid (p < w5.heap.size) := hC5.lt
      have hC7 := hC5.below b7
      have G7 := hide (G5.out.below b7 G5.out.lt)
      have gb7 : Hid (Below g2 w w7) := gb5.out.trans (b7.mono (Nat.le_of_lt G5.out.lt))
      generalize hgr : w5.heap.size = gr at LR R7 c6 f6 c7 hW7 ⊢
      clear q6 b6 r7 b7 hC5 hb5 hs5 G5 gb5 G4 gb4
      go_wp2_with fail
      try rw [hW7]
      refine (RM.out p _ hC7).mono ?_
      rintro e w8 ⟨rfl, hC8, hM8⟩
      obtain ⟨w9, w10, hW9, r9, hW10, r10, b10, b9⟩ := newM w8 m
      have R9 := hide r9
      have R10 := hide r10
      have G8 := G7.out.mr hM8 (Nat.ne_of_lt LP.out)
      have G10 := hide (G8.below b10 G8.lt)
      have P8 := R7.out.mr hM8 (Nat.ne_of_gt LR.out)
      have P10 := hide (P8.below b10 P8.lt)
      have HC10 := hide (hC8.below b10)
      have gb10 : Hid (Below g2 w w10) := (gb7.out.trans (hM8.below (Nat.le_of_lt LP.out) (Nat.le_of_lt G7.out.lt))).trans (b10.mono (Nat.le_of_lt G8.lt))
      generalize hg8 : w8.heap.size = g8 at R9 R10 hW10 ⊢
      clear hC7 hC8 hM8 r9 r10 b10 b9 G8 P8 G7 gb7 R7 c6 f6 c7 RM LR
      go_upto_region 6 with (first | refine wpList_storeM rfl _ _ rfl rfl (g8) (m) rfl rfl _ R9.out ?_ | fail)
      try rw [hW10]
      clear hW9 hW10 R9 hgr hW6 hW7 hg8
      have c1 : w10.cell? ⟨gr, 0, none⟩ = some (.pointer (some ⟨p, 0, none⟩)) := P10.out.cell 0 (by omega)
      have c2 : w10.cell? ⟨g8, 3, none⟩ = some (.int .i64 m.idx) := R10.out.cell 3 (by omega)
      have c3 : w10.cell? ⟨g8, 4, none⟩ = some (.int .i64 m.nxt) := R10.out.cell 4 (by omega)
      cases ok with
      | false =>
        have HZ : Hid (X = badM) := HY.out.trans (end_no _ _)
        clear HY
        go_wp2_with (first | refine wpW_build (by rfl) 25 #[] rfl [] (by first | rfl | (simp [Act.eval, Act.put]; done)) _ builtMZ ?_ | refine wpList_storeM rfl _ _ rfl rfl (g2) (Msg.zero) rfl rfl _ G10.out ?_ | fail)
        (try simp only [Exit.inBlock, Exit.then])
        exact bodyPost_ret (resMT _ g2 _ _ (.int .i64 160) 2 3 (G10.out.row _ (Msg.zero).v rfl) rfl rfl _ rfl) rfl ⟨by rw [HZ.out]; rfl, by first | exact below_setRow gb10.out (Nat.le_refl _) _ | (rw [hg2]; exact below_setRow gb10.out (Nat.le_refl _) _)⟩
      | true =>
        go_wp2_with fail
        refine (Cu.rDone p st _ HC10.out).mono ?_
        rintro e wv ⟨rfl, rfl⟩
        obtain ⟨D, hD⟩ : ∃ D, doneS st = D := ⟨_, rfl⟩
        rw [hD]
        by_cases hd : D = 0
        · subst hd
          go_wp2_with fail
          refine (isIndex_any m.idx _).mono ?_
          rintro e wv ⟨rfl, rfl⟩
          cases hi : idxB m.idx with
          | false =>
            have HZ : Hid (X = badM) := HY.out.trans (by unfold rdEnd; rw [if_neg (fun h => by rw [hi] at h; cases h.2.2.1)])
            clear HY
            go_wp2_with (first | refine wpW_build (by rfl) 25 #[] rfl [] (by first | rfl | (simp [Act.eval, Act.put]; done)) _ builtMZ ?_ | refine wpList_storeM rfl _ _ rfl rfl (g2) (Msg.zero) rfl rfl _ G10.out ?_ | fail)
            (try simp only [Exit.inBlock, Exit.then])
            exact bodyPost_ret (resMT _ g2 _ _ (.int .i64 160) 2 3 (G10.out.row _ (Msg.zero).v rfl) rfl rfl _ rfl) rfl ⟨by rw [HZ.out]; rfl, by first | exact below_setRow gb10.out (Nat.le_refl _) _ | (rw [hg2]; exact below_setRow gb10.out (Nat.le_refl _) _)⟩
          | true =>
            go_wp2_with fail
            refine (isIndex_any m.nxt _).mono ?_
            rintro e wv ⟨rfl, rfl⟩
            cases hx : idxB m.nxt with
            | false =>
              have HZ : Hid (X = badM) := HY.out.trans (by unfold rdEnd; rw [if_neg (fun h => by rw [hx] at h; cases h.2.2.2)])
              clear HY
              go_wp2_with (first | refine wpW_build (by rfl) 25 #[] rfl [] (by first | rfl | (simp [Act.eval, Act.put]; done)) _ builtMZ ?_ | refine wpList_storeM rfl _ _ rfl rfl (g2) (Msg.zero) rfl rfl _ G10.out ?_ | fail)
              (try simp only [Exit.inBlock, Exit.then])
              exact bodyPost_ret (resMT _ g2 _ _ (.int .i64 160) 2 3 (G10.out.row _ (Msg.zero).v rfl) rfl rfl _ rfl) rfl ⟨by rw [HZ.out]; rfl, by first | exact below_setRow gb10.out (Nat.le_refl _) _ | (rw [hg2]; exact below_setRow gb10.out (Nat.le_refl _) _)⟩
            | true =>
              have HZ : Hid (X = (m, 0)) := HY.out.trans (by unfold rdEnd; rw [if_pos ⟨rfl, hD, hi, hx⟩])
              clear HY
              go_wp2_with (first | refine wpW_load_at 25 _ rfl (g8) (0) (by rfl) (by rfl) _ 70 _ (R10.out.at_ 0 (by omega) (fun i hi => by rw [Nat.zero_add])) Try.underlying25 rfl infoM ?_ | refine wpList_storeM rfl _ _ rfl rfl (g2) (m) rfl rfl _ G10.out ?_ | fail)
              (try simp only [Exit.inBlock, Exit.then])
              exact bodyPost_ret (resMT _ g2 _ _ (.int .i64 0) 2 3 (G10.out.row _ (m).v rfl) rfl rfl _ rfl) rfl ⟨by rw [HZ.out], by first | exact below_setRow gb10.out (Nat.le_refl _) _ | (rw [hg2]; exact below_setRow gb10.out (Nat.le_refl _) _)⟩
        · have HZ : Hid (X = badM) := HY.out.trans (by unfold rdEnd; rw [if_neg (fun h => hd (hD.symm.trans h.2.1))])
          have hd1 : (D == 0) = false := beq_false_of_ne hd
          have hd2 : (D != 0) = true := bne_iff_ne.2 hd
          clear HY
          go_wp2_with (first | refine wpW_build (by rfl) 25 #[] rfl [] (by first | rfl | (simp [Act.eval, Act.put]; done)) _ builtMZ ?_ | refine wpList_storeM rfl _ _ rfl rfl (g2) (Msg.zero) rfl rfl _ G10.out ?_ | fail)
          (try simp only [Exit.inBlock, Exit.then])
          exact bodyPost_ret (resMT _ g2 _ _ (.int .i64 160) 2 3 (G10.out.row _ (Msg.zero).v rfl) rfl rfl _ rfl) rfl ⟨by rw [HZ.out]; rfl, by first | exact below_setRow gb10.out (Nat.le_refl _) _ | (rw [hg2]; exact below_setRow gb10.out (Nat.le_refl _) _)⟩
  · have HY : Hid (X = rdEnd ((m, ok), st)) := HX.out.symm.trans (by rw [if_neg (fun h => hE h.1)])
    have hnb : (E == 0) = false := beq_false_of_ne hE
    clear HX hE
    go_wp2_with fail
    refine (Cu.rOpen b _).mono ?_
    rintro e w5 ⟨rfl, hC5, hb5, hs5⟩
    have G5 := hide (G4.out.below hb5 G4.out.lt)
    have gb5 : Hid (Below g2 w w5) := gb4.out.trans (hb5.mono (Nat.le_of_lt G4.out.lt))
    have LP : Hid (g2 < w4.heap.size) := G4.out.lt
    generalize w4.heap.size = p at hC5 LP ⊢
    obtain ⟨w6, hW6⟩ : ∃ wX, w5.alloc (.cells #[.pointer none] 55) = wX := ⟨_, rfl⟩
    obtain ⟨w7, hW7⟩ : ∃ wX, w6.setCell ⟨w5.heap.size, 0, none⟩ (.pointer (some ⟨p, 0, none⟩)) = wX := ⟨_, rfl⟩
    have q6 : Has w6 w5.heap.size 55 (fun _ => .pointer none) 1 := by rw [← hW6]; exact Has.new w5 55 (fun _ => .pointer none) 1 _ rfl
    have b6 : Below w5.heap.size w5 w6 := by rw [← hW6]; exact (Below.refl w5.heap.size w5).alloc (Nat.le_refl _) _
    have c6 : w6.cell? ⟨w5.heap.size, 0, none⟩ = some (.pointer none) := q6.cell 0 (by omega)
    have f6 := q6.frozen 0
    have r7 : Has w7 w5.heap.size 55 (fun _ => .pointer (some ⟨p, 0, none⟩)) 1 := by rw [← hW7]; exact (q6.set 0 _).congr _ (fun i hi => by match i, hi with
                                                                                                                                        | 0, _ => rfl)
    have b7 : Below w5.heap.size w5 w7 := by rw [← hW7]; exact b6.setCell (Nat.le_refl _) _
    have c7 : w7.cell? ⟨w5.heap.size, 0, none⟩ = some (.pointer (some ⟨p, 0, none⟩)) := r7.cell 0 (by omega)
    have R7 := hide r7
    have LR : Hid (p < w5.heap.size) := hC5.lt
    have hC7 := hC5.below b7
    have G7 := hide (G5.out.below b7 G5.out.lt)
    have gb7 : Hid (Below g2 w w7) := gb5.out.trans (b7.mono (Nat.le_of_lt G5.out.lt))
    generalize hgr : w5.heap.size = gr at LR R7 c6 f6 c7 hW7 ⊢
    clear q6 b6 r7 b7 hC5 hb5 hs5 G5 gb5 G4 gb4
    go_wp2_with fail
    try rw [hW7]
    refine (RM.out p _ hC7).mono ?_
    rintro e w8 ⟨rfl, hC8, hM8⟩
    obtain ⟨w9, w10, hW9, r9, hW10, r10, b10, b9⟩ := newM w8 m
    have R9 := hide r9
    have R10 := hide r10
    have G8 := G7.out.mr hM8 (Nat.ne_of_lt LP.out)
    have G10 := hide (G8.below b10 G8.lt)
    have P8 := R7.out.mr hM8 (Nat.ne_of_gt LR.out)
    have P10 := hide (P8.below b10 P8.lt)
    have HC10 := hide (hC8.below b10)
    have gb10 : Hid (Below g2 w w10) := (gb7.out.trans (hM8.below (Nat.le_of_lt LP.out) (Nat.le_of_lt G7.out.lt))).trans (b10.mono (Nat.le_of_lt G8.lt))
    generalize hg8 : w8.heap.size = g8 at R9 R10 hW10 ⊢
    clear hC7 hC8 hM8 r9 r10 b10 b9 G8 P8 G7 gb7 R7 c6 f6 c7 RM LR
    go_upto_region 6 with (first | refine wpList_storeM rfl _ _ rfl rfl (g8) (m) rfl rfl _ R9.out ?_ | fail)
    try rw [hW10]
    clear hW9 hW10 R9 hgr hW6 hW7 hg8
    have c1 : w10.cell? ⟨gr, 0, none⟩ = some (.pointer (some ⟨p, 0, none⟩)) := P10.out.cell 0 (by omega)
    have c2 : w10.cell? ⟨g8, 3, none⟩ = some (.int .i64 m.idx) := R10.out.cell 3 (by omega)
    have c3 : w10.cell? ⟨g8, 4, none⟩ = some (.int .i64 m.nxt) := R10.out.cell 4 (by omega)
    cases ok with
    | false =>
      have HZ : Hid (X = badM) := HY.out.trans (end_no _ _)
      clear HY
      go_wp2_with (first | refine wpW_build (by rfl) 25 #[] rfl [] (by first | rfl | (simp [Act.eval, Act.put]; done)) _ builtMZ ?_ | refine wpList_storeM rfl _ _ rfl rfl (g2) (Msg.zero) rfl rfl _ G10.out ?_ | fail)
      (try simp only [Exit.inBlock, Exit.then])
      exact bodyPost_ret (resMT _ g2 _ _ (.int .i64 160) 2 3 (G10.out.row _ (Msg.zero).v rfl) rfl rfl _ rfl) rfl ⟨by rw [HZ.out]; rfl, by first | exact below_setRow gb10.out (Nat.le_refl _) _ | (rw [hg2]; exact below_setRow gb10.out (Nat.le_refl _) _)⟩
    | true =>
      go_wp2_with fail
      refine (Cu.rDone p st _ HC10.out).mono ?_
      rintro e wv ⟨rfl, rfl⟩
      obtain ⟨D, hD⟩ : ∃ D, doneS st = D := ⟨_, rfl⟩
      rw [hD]
      by_cases hd : D = 0
      · subst hd
        go_wp2_with fail
        refine (isIndex_any m.idx _).mono ?_
        rintro e wv ⟨rfl, rfl⟩
        cases hi : idxB m.idx with
        | false =>
          have HZ : Hid (X = badM) := HY.out.trans (by unfold rdEnd; rw [if_neg (fun h => by rw [hi] at h; cases h.2.2.1)])
          clear HY
          go_wp2_with (first | refine wpW_build (by rfl) 25 #[] rfl [] (by first | rfl | (simp [Act.eval, Act.put]; done)) _ builtMZ ?_ | refine wpList_storeM rfl _ _ rfl rfl (g2) (Msg.zero) rfl rfl _ G10.out ?_ | fail)
          (try simp only [Exit.inBlock, Exit.then])
          exact bodyPost_ret (resMT _ g2 _ _ (.int .i64 160) 2 3 (G10.out.row _ (Msg.zero).v rfl) rfl rfl _ rfl) rfl ⟨by rw [HZ.out]; rfl, by first | exact below_setRow gb10.out (Nat.le_refl _) _ | (rw [hg2]; exact below_setRow gb10.out (Nat.le_refl _) _)⟩
        | true =>
          go_wp2_with fail
          refine (isIndex_any m.nxt _).mono ?_
          rintro e wv ⟨rfl, rfl⟩
          cases hx : idxB m.nxt with
          | false =>
            have HZ : Hid (X = badM) := HY.out.trans (by unfold rdEnd; rw [if_neg (fun h => by rw [hx] at h; cases h.2.2.2)])
            clear HY
            go_wp2_with (first | refine wpW_build (by rfl) 25 #[] rfl [] (by first | rfl | (simp [Act.eval, Act.put]; done)) _ builtMZ ?_ | refine wpList_storeM rfl _ _ rfl rfl (g2) (Msg.zero) rfl rfl _ G10.out ?_ | fail)
            (try simp only [Exit.inBlock, Exit.then])
            exact bodyPost_ret (resMT _ g2 _ _ (.int .i64 160) 2 3 (G10.out.row _ (Msg.zero).v rfl) rfl rfl _ rfl) rfl ⟨by rw [HZ.out]; rfl, by first | exact below_setRow gb10.out (Nat.le_refl _) _ | (rw [hg2]; exact below_setRow gb10.out (Nat.le_refl _) _)⟩
          | true =>
            have HZ : Hid (X = (m, 0)) := HY.out.trans (by unfold rdEnd; rw [if_pos ⟨rfl, hD, hi, hx⟩])
            clear HY
            go_wp2_with (first | refine wpW_load_at 25 _ rfl (g8) (0) (by rfl) (by rfl) _ 70 _ (R10.out.at_ 0 (by omega) (fun i hi => by rw [Nat.zero_add])) Try.underlying25 rfl infoM ?_ | refine wpList_storeM rfl _ _ rfl rfl (g2) (m) rfl rfl _ G10.out ?_ | fail)
            (try simp only [Exit.inBlock, Exit.then])
            exact bodyPost_ret (resMT _ g2 _ _ (.int .i64 0) 2 3 (G10.out.row _ (m).v rfl) rfl rfl _ rfl) rfl ⟨by rw [HZ.out], by first | exact below_setRow gb10.out (Nat.le_refl _) _ | (rw [hg2]; exact below_setRow gb10.out (Nat.le_refl _) _)⟩
      · have HZ : Hid (X = badM) := HY.out.trans (by unfold rdEnd; rw [if_neg (fun h => hd (hD.symm.trans h.2.1))])
        have hd1 : (D == 0) = false := beq_false_of_ne hd
        have hd2 : (D != 0) = true := bne_iff_ne.2 hd
        clear HY
        go_wp2_with (first | refine wpW_build (by rfl) 25 #[] rfl [] (by first | rfl | (simp [Act.eval, Act.put]; done)) _ builtMZ ?_ | refine wpList_storeM rfl _ _ rfl rfl (g2) (Msg.zero) rfl rfl _ G10.out ?_ | fail)
        (try simp only [Exit.inBlock, Exit.then])
        exact bodyPost_ret (resMT _ g2 _ _ (.int .i64 160) 2 3 (G10.out.row _ (Msg.zero).v rfl) rfl rfl _ rfl) rfl ⟨by rw [HZ.out]; rfl, by first | exact below_setRow gb10.out (Nat.le_refl _) _ | (rw [hg2]; exact below_setRow gb10.out (Nat.le_refl _) _)⟩
end Go.Proofs.Ytfohdolhobooiaa
