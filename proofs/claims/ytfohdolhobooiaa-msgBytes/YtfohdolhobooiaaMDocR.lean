/-
  The document's Read (printed by gen_m13.py).
-/
import Derived.Test.YtfohdolhobooiaaMDocN
namespace Go.Proofs.Ytfohdolhobooiaa
open Go.RowKit S
set_option linter.unusedVariables false
set_option linter.unusedSimpArgs false
open Cu (nb be hl ofL CW Mw CR Mr RS takeS takeA hOf nil8 num doneS)
theorem doc_yes {l : List UInt8} {m : Msg} (hv : validM m = true) (hb : bytesM m = l) : ∃ x, rdM l = (x, 0) ∧ eqM x m = true := by
  rw [← hb]
  exact rdM_back hv
theorem doc_no {l : List UInt8} {m : Msg} (hne : ∀ x, rdM l = (x, 0) → eqM x m = true) (h : ¬(validM m = true ∧ bytesM m = l)) : rdM l = badM := by
  rcases rdM_bad l with h0 | h0
  · exfalso
    obtain ⟨x, E, hx⟩ : ∃ x E, rdM l = (x, E) := ⟨_, _, rfl⟩
    rw [hx] at h0
    have h0 : E = 0 := h0
    subst h0
    have he := hne x hx
    obtain ⟨h1, h2⟩ := rdM_ok l x hx
    exact h ⟨by rw [← validM_congr he]; exact h1, by rw [← bytesM_congr he]; exact h2⟩
  · exact h0
theorem numD_ok (c : UInt8) (r : List UInt8) (a : Nat) (h : a + 8 ≤ r.length) (hi : idxB (I8 (r.drop a)) = true) : numD (c :: r) (a + 1) = I8 (r.drop a) := by
  rw [idxB_iff] at hi
  have hl8 : ((r.drop a).take 8).length = 8 := by rw [List.length_take, List.length_drop]; omega
  have hb := Cu.be_lt ((r.drop a).take 8)
  rw [hl8] at hb
  unfold numD
  rw [if_neg (by simp only [List.length_cons]; omega), List.drop_succ_cons]
  unfold I8 at hi ⊢
  rw [IntKind.wrap_i64] at hi ⊢
  rw [if_neg (by omega)]
  omega
theorem hD_ok (c : UInt8) (r : List UInt8) (a : Nat) (h : a + 32 ≤ r.length) : eqH (hashOf ((r.drop a).take 32)) (hD (c :: r) (a + 1)) = true := (eqH_iff _ _).2 fun i hi => by
  unfold hashOf hD
  rw [List.getD_eq_getElem?_getD, List.getD_eq_getElem?_getD, List.getElem?_take_of_lt hi, List.getElem?_drop, show a + 1 + i = (a + i) + 1 by omega, List.getElem?_cons_succ]
def docM (l : List UInt8) (k : Nat) : Msg :=
  if k = 4 then ⟨4, 0, 0, numD l 1, 0, hD l 9, z32, nilB⟩
  else if k = 5 then ⟨5, 0, 0, numD l 1, 0, hD l 41, hD l 9, nilB⟩
  else if k = 6 then ⟨6, 0, 0, numD l 1, numD l 9, z32, hD l 17, nilB⟩
  else if k = 7 then ⟨7, 0, 0, numD l 1, 0, z32, z32, nilB⟩
  else ⟨(k : Int), 0, 0, 0, 0, z32, z32, nilB⟩
theorem rdO_bad0 (c : UInt8) (r : List UInt8) (h : c ≠ 4 ∧ c ≠ 5 ∧ c ≠ 6 ∧ c ≠ 7) : rdO (c :: r) = badM := by
  unfold rdO
  dsimp only
  rw [if_neg h.1, if_neg h.2.1, if_neg h.2.2.1, if_neg h.2.2.2]
theorem bad_ne (x : Msg) (h : badM = (x, 0)) : False := by
  have := congrArg Prod.snd h
  simp [badM] at this
theorem doc_ne (c : UInt8) (r : List UInt8) (h1 : c ≠ 1) (h2 : c ≠ 2) (h3 : c ≠ 3) (x : Msg) (h : rdM (c :: r) = (x, 0)) : eqM x (docM (c :: r) c.toNat) = true := by
  rw [rdM_other c r h1 h2 h3] at h
  by_cases c4 : c = 4
  · subst c4
    unfold rdO at h
    dsimp only at h
    rw [if_pos rfl] at h
    by_cases hh : r.length = 40 ∧ idxB (I8 r) = true
    · rw [if_pos hh] at h
      obtain rfl := congrArg Prod.fst h
      have e1 := numD_ok 4 r 0 (by omega) (by rw [List.drop_zero]; exact hh.2)
      have e2 := hD_ok 4 r 8 (by omega)
      rw [List.drop_zero] at e1
      rw [eqM_iff]
      exact ⟨rfl, rfl, rfl, e1.symm, rfl, e2, eqH_refl _, rfl⟩
    · rw [if_neg hh] at h; exact (bad_ne _ h).elim
  by_cases c5 : c = 5
  · subst c5
    unfold rdO at h
    dsimp only at h
    rw [if_neg c4, if_pos rfl] at h
    by_cases hh : r.length = 72 ∧ idxB (I8 r) = true
    · rw [if_pos hh] at h
      obtain rfl := congrArg Prod.fst h
      have e1 := numD_ok 5 r 0 (by omega) (by rw [List.drop_zero]; exact hh.2)
      have e2 := hD_ok 5 r 8 (by omega)
      have e3 := hD_ok 5 r 40 (by omega)
      rw [List.drop_zero] at e1
      rw [eqM_iff]
      exact ⟨rfl, rfl, rfl, e1.symm, rfl, e3, e2, rfl⟩
    · rw [if_neg hh] at h; exact (bad_ne _ h).elim
  by_cases c6 : c = 6
  · subst c6
    unfold rdO at h
    dsimp only at h
    rw [if_neg c4, if_neg c5, if_pos rfl] at h
    by_cases hh : r.length = 48 ∧ idxB (I8 r) = true ∧ idxB (I8 (r.drop 8)) = true
    · rw [if_pos hh] at h
      obtain rfl := congrArg Prod.fst h
      have e1 := numD_ok 6 r 0 (by omega) (by rw [List.drop_zero]; exact hh.2.1)
      have e2 := numD_ok 6 r 8 (by omega) hh.2.2
      have e3 := hD_ok 6 r 16 (by omega)
      rw [List.drop_zero] at e1
      rw [eqM_iff]
      exact ⟨rfl, rfl, rfl, e1.symm, e2.symm, eqH_refl _, e3, rfl⟩
    · rw [if_neg hh] at h; exact (bad_ne _ h).elim
  by_cases c7 : c = 7
  · subst c7
    unfold rdO at h
    dsimp only at h
    rw [if_neg c4, if_neg c5, if_neg c6, if_pos rfl] at h
    by_cases hh : r.length = 8 ∧ idxB (I8 r) = true
    · rw [if_pos hh] at h
      obtain rfl := congrArg Prod.fst h
      have e1 := numD_ok 7 r 0 (by omega) (by rw [List.drop_zero]; exact hh.2)
      rw [List.drop_zero] at e1
      rw [eqM_iff]
      exact ⟨rfl, rfl, rfl, e1.symm, rfl, eqH_refl _, eqH_refl _, rfl⟩
    · rw [if_neg hh] at h; exact (bad_ne _ h).elim
  rw [rdO_bad0 c r ⟨c4, c5, c6, c7⟩] at h
  exact (bad_ne _ h).elim
/-- What the document's Read answers. -/
def RdD (B : Nat) (l : List UInt8) (w : World) (e : Ending) (w' : World) : Prop := ∃ x, e = .returned (.tuple #[.agg (tabv x.v 70), .int .i64 (rdM l).2]) ∧ eqM (rdM l).1 x = true ∧ Below B w w'
theorem rdD_bad {B : Nat} {l : List UInt8} {w : World} {e : Ending} {w' : World} (h : rdM l = badM) (he : e = .returned (.tuple #[.agg (tabv Msg.zero.v 70), .int .i64 160])) (hb : Below B w w') : RdD B l w e w' := ⟨Msg.zero, by rw [he, h]; rfl, by rw [h]; exact eqM_refl _, hb⟩
theorem rdD_ok {B : Nat} {l : List UInt8} {w : World} {e : Ending} {w' : World} {m x : Msg} (h : rdM l = (x, 0)) (hx : eqM x m = true) (he : e = .returned (.tuple #[.agg (tabv m.v 70), .int .i64 0])) (hb : Below B w w') : RdD B l w e w' := ⟨m, by rw [he, h], by rw [h]; exact hx, hb⟩
set_option maxRecDepth 100000 in
set_option maxHeartbeats 40000000 in
theorem rrM_empty (b : ByteArray) (w : World) (hb : b.toList.isEmpty = true) : Calls Try.prog 17 #[.string b] w fun e w' => RdD w.heap.size b.data.toList w e w' := by
  have HB : Hid (rdM b.data.toList = badM) := by
    have h0 : b.data.toList = [] := by rw [List.isEmpty_iff, ByteArray.toList_eq] at hb; exact hb
    show _ = _
    rw [h0]; exact rdM_nil
  obtain ⟨w1, wX1, hW1, r1, _, _, _, b1⟩ := newM w Msg.zero
  have R1 := hide r1
  have G1 : Hid (Below w.heap.size w w1) := b1
  clear r1 b1
  go_enter Try.func17, Try.ntmps17
  go_upto_region 1 with fail
  generalize hg2 : w.heap.size = g2 at R1 G1 ⊢
  clear hW1
  go_wp2_with (first | refine wpW_build (by rfl) 25 #[] rfl [] (by first | rfl | (simp [Act.eval, Act.put]; done)) _ builtMZ ?_ | refine wpList_storeM rfl _ _ rfl rfl (g2) (Msg.zero) rfl rfl _ R1.out ?_ | fail)
  (try simp only [Exit.inBlock, Exit.then])
  exact bodyPost_ret (resMT _ g2 _ _ (.int .i64 160) 2 3 (R1.out.row _ Msg.zero.v rfl) rfl rfl _ rfl) rfl (rdD_bad HB.out rfl (by first | exact below_setRow G1.out (Nat.le_refl _) _ | (rw [hg2]; exact below_setRow G1.out (Nat.le_refl _) _)))
set_option maxRecDepth 100000 in
set_option maxHeartbeats 40000000 in
theorem rrM_1 (b : ByteArray) (c : UInt8) (r : List UInt8) (hb : b.data.toList = c :: r) (hz : b.size ≤ 281474976710656) (hc : c = 1) (w : World) : Calls Try.prog 17 #[.string b] w fun e w' => RdD w.heap.size b.data.toList w e w' := by
  have HM : Hid (rdM b.data.toList = if (rdL b.data.toList).2.2 = 0 ∧ (rdL b.data.toList).2.1 = (b.size : Int) then (ofU (rdL b.data.toList).1, 0) else badM) := by
    show _ = _
    unfold rdM
    rw [Cu.str_len]
    split
    · rfl
    · rw [hb]; exact rdO_upd c r (by rw [hc]; decide)
  have RU := hide (fun w : World => rread_any b w hz)
  have hne : b.toList.isEmpty = false := empty_false (by rw [← Cu.str_len, hb]; simp)
  have hz0 : (0 : Int) < (b.size : Int) := by rw [← Cu.str_len, hb]; simp only [List.length_cons]; omega
  have IX : Hid (∀ w : World, (Instr.index 9 (.string b) (.int .i64 0)).run Try.prog w = .ok (.int .u8 (c.toNat : Int)) w) := fun w => by
    have h := Cu.index_text b 0 (by rw [← Cu.str_len, hb]; simp) w
    rw [hb] at h
    exact h
  obtain ⟨K, hK⟩ : ∃ K : Int, ((c.toNat : Nat) : Int) = K := ⟨_, rfl⟩
  have hk256 := c.toNat_lt
  have KC : Hid (∀ w : World, (convert 5 3 (.int .u8 K)).run Try.prog w = .ok (.int .i64 K) w) := fun w => by
    have h := run_convert_int (P := Try.prog) (w := w) 5 3 .u8 K (by kernel_rfl) (by kernel_rfl)
    rw [show Try.prog.intKind 3 = .i64 by kernel_rfl, show IntKind.i64.wrap K = K by rw [IntKind.wrap_i64]; omega] at h
    exact h
  rw [hK] at IX
  clear hk256
  obtain ⟨w1, wX1, hW1, r1, _, _, _, b1⟩ := newM w Msg.zero
  have R1 := hide r1
  have G1 : Hid (Below w.heap.size w w1) := b1
  clear r1 b1
  obtain ⟨w2, w3, hW2, r2, hW3, r3, b3, b2⟩ := newM w1 ⟨K, 0, 0, 0, 0, z32, z32, nilB⟩
  have RN := hide r2
  have K3 : Hid (NV w w.heap.size w1.heap.size Msg.zero ⟨K, 0, 0, 0, 0, z32, z32, nilB⟩ w3) := ⟨R1.out.below b3 R1.out.lt, r3, G1.out.trans (b3.mono G1.out.size), R1.out.lt⟩
  clear r2 r3 b3 b2 R1 G1
  go_enter Try.func17, Try.ntmps17
  go_upto_region 4 with (first | (refine Cu.wpList_index_lit rfl _ _ _ rfl (.int .u8 K) ?_ ?_; · exact IX.out _) | refine Cu.wpList_conv rfl _ _ _ rfl .u8 .i64 K K (by rfl) (KC.out _) ?_ | refine wpW_build (by rfl) 25 #[(0, .tmp 15)] rfl [(0, .int .i64 K)] (by first | rfl | (simp [Act.eval, Act.put]; done)) _ (builtMK K) ?_ | refine wpList_storeM rfl _ _ rfl rfl (w1.heap.size) (⟨K, 0, 0, 0, 0, z32, z32, nilB⟩) rfl rfl _ RN.out ?_ | fail)
  try rw [hW3]
  generalize hg2 : w.heap.size = g2 at K3 ⊢
  generalize w1.heap.size = g4 at K3 ⊢
  clear hW1 hW2 hW3 RN IX KC hne hz0
  have c0 : w3.cell? ⟨g4, 0, none⟩ = some (.int .i64 K) := K3.out.rn.cell 0 (by omega)
  obtain rfl : K = 1 := by rw [← hK, hc]; rfl
  clear hK hc hb
  obtain ⟨u, n, E, hu⟩ : ∃ u n E, rdL b.data.toList = (u, n, E) := ⟨_, _, _, rfl⟩
  rw [hu] at RU HM
  clear hu
  go_wp2_with fail
  refine (RU.out _).mono ?_
  rintro e w4 ⟨rfl, hb4⟩
  obtain ⟨wn, w5, hWn, rn, hW5, r5, b5, _⟩ := newU2 w4 u
  have RN := hide rn
  have V5 := hide r5
  have K5 := hide ((K3.out.below hb4).below b5)
  clear rn r5 b5 hb4 K3 c0 RU
  go_upto_region 9 with (first | refine wpList_storeU rfl _ _ rfl rfl (w4.heap.size) (u) rfl rfl _ RN.out ?_ | fail)
  try rw [hW5]
  generalize w4.heap.size = g5 at V5 ⊢
  clear hWn hW5 RN
  by_cases hE : E = 0
  · subst hE
    by_cases hN : n = (b.size : Int)
    · subst hN
      have HY : Hid (rdM b.data.toList = (ofU u, 0)) := HM.out.trans (by rw [if_pos ⟨rfl, rfl⟩])
      have hq : ((b.size : Int) != (b.size : Int)) = false := by simp
      clear HM
      go_wp2_with (first | refine wpW_load_at 34 _ rfl (g5) (0) (by rfl) (by rfl) _ 36 _ (V5.out.at_ 0 (by omega) (fun i hi => by rw [Nat.zero_add])) Try.underlying34 rfl infoU ?_ | fail)
      refine (rof_any u _).mono ?_
      rintro e w6 ⟨rfl, hb6⟩
      have K6 := hide (K5.out.below hb6)
      clear hb6 K5 V5
      go_wp2_with (first | refine wpList_storeM rfl _ _ rfl rfl (g2) (ofU u) rfl rfl _ K6.out.rm ?_ | fail)
      (try simp only [Exit.inBlock, Exit.then])
      exact bodyPost_ret (resMT _ g2 _ _ (.int .i64 0) 2 3 (K6.out.rm.row _ (ofU u).v rfl) rfl rfl _ rfl) rfl (rdD_ok HY.out (eqM_refl _) rfl (by first | exact below_setRow K6.out.bel (Nat.le_refl _) _ | (rw [hg2]; exact below_setRow K6.out.bel (Nat.le_refl _) _)))
    · have HY : Hid (rdM b.data.toList = badM) := HM.out.trans (by rw [if_neg (fun h => hN h.2)])
      have hq : (n == (b.size : Int)) = false := beq_false_of_ne hN
      have hq2 : (n != (b.size : Int)) = true := bne_iff_ne.2 hN
      clear HM hN
      go_wp2_with (first | refine wpW_build (by rfl) 25 #[] rfl [] (by first | rfl | (simp [Act.eval, Act.put]; done)) _ builtMZ ?_ | refine wpList_storeM rfl _ _ rfl rfl (g2) (Msg.zero) rfl rfl _ K5.out.rm ?_ | fail)
      (try simp only [Exit.inBlock, Exit.then])
      exact bodyPost_ret (resMT _ g2 _ _ (.int .i64 160) 2 3 (K5.out.rm.row _ Msg.zero.v rfl) rfl rfl _ rfl) rfl (rdD_bad HY.out rfl (by first | exact below_setRow K5.out.bel (Nat.le_refl _) _ | (rw [hg2]; exact below_setRow K5.out.bel (Nat.le_refl _) _)))
  · have HY : Hid (rdM b.data.toList = badM) := HM.out.trans (by rw [if_neg (fun h => hE h.1)])
    have hq : (E == 0) = false := beq_false_of_ne hE
    have hq2 : (E != 0) = true := bne_iff_ne.2 hE
    clear HM hE
    go_wp2_with (first | refine wpW_build (by rfl) 25 #[] rfl [] (by first | rfl | (simp [Act.eval, Act.put]; done)) _ builtMZ ?_ | refine wpList_storeM rfl _ _ rfl rfl (g2) (Msg.zero) rfl rfl _ K5.out.rm ?_ | fail)
    (try simp only [Exit.inBlock, Exit.then])
    exact bodyPost_ret (resMT _ g2 _ _ (.int .i64 160) 2 3 (K5.out.rm.row _ Msg.zero.v rfl) rfl rfl _ rfl) rfl (rdD_bad HY.out rfl (by first | exact below_setRow K5.out.bel (Nat.le_refl _) _ | (rw [hg2]; exact below_setRow K5.out.bel (Nat.le_refl _) _)))
set_option maxRecDepth 100000 in
set_option maxHeartbeats 40000000 in
theorem rrM_2 (b : ByteArray) (c : UInt8) (r : List UInt8) (hb : b.data.toList = c :: r) (hz : b.size ≤ 281474976710656) (hc : c = 2) (w : World) : Calls Try.prog 17 #[.string b] w fun e w' => RdD w.heap.size b.data.toList w e w' := by
  have HM : Hid (rdM b.data.toList = if (rdL b.data.toList).2.2 = 0 ∧ (rdL b.data.toList).2.1 = (b.size : Int) then (ofU (rdL b.data.toList).1, 0) else badM) := by
    show _ = _
    unfold rdM
    rw [Cu.str_len]
    split
    · rfl
    · rw [hb]; exact rdO_upd c r (by rw [hc]; decide)
  have RU := hide (fun w : World => rread_any b w hz)
  have hne : b.toList.isEmpty = false := empty_false (by rw [← Cu.str_len, hb]; simp)
  have hz0 : (0 : Int) < (b.size : Int) := by rw [← Cu.str_len, hb]; simp only [List.length_cons]; omega
  have IX : Hid (∀ w : World, (Instr.index 9 (.string b) (.int .i64 0)).run Try.prog w = .ok (.int .u8 (c.toNat : Int)) w) := fun w => by
    have h := Cu.index_text b 0 (by rw [← Cu.str_len, hb]; simp) w
    rw [hb] at h
    exact h
  obtain ⟨K, hK⟩ : ∃ K : Int, ((c.toNat : Nat) : Int) = K := ⟨_, rfl⟩
  have hk256 := c.toNat_lt
  have KC : Hid (∀ w : World, (convert 5 3 (.int .u8 K)).run Try.prog w = .ok (.int .i64 K) w) := fun w => by
    have h := run_convert_int (P := Try.prog) (w := w) 5 3 .u8 K (by kernel_rfl) (by kernel_rfl)
    rw [show Try.prog.intKind 3 = .i64 by kernel_rfl, show IntKind.i64.wrap K = K by rw [IntKind.wrap_i64]; omega] at h
    exact h
  rw [hK] at IX
  clear hk256
  obtain ⟨w1, wX1, hW1, r1, _, _, _, b1⟩ := newM w Msg.zero
  have R1 := hide r1
  have G1 : Hid (Below w.heap.size w w1) := b1
  clear r1 b1
  obtain ⟨w2, w3, hW2, r2, hW3, r3, b3, b2⟩ := newM w1 ⟨K, 0, 0, 0, 0, z32, z32, nilB⟩
  have RN := hide r2
  have K3 : Hid (NV w w.heap.size w1.heap.size Msg.zero ⟨K, 0, 0, 0, 0, z32, z32, nilB⟩ w3) := ⟨R1.out.below b3 R1.out.lt, r3, G1.out.trans (b3.mono G1.out.size), R1.out.lt⟩
  clear r2 r3 b3 b2 R1 G1
  go_enter Try.func17, Try.ntmps17
  go_upto_region 4 with (first | (refine Cu.wpList_index_lit rfl _ _ _ rfl (.int .u8 K) ?_ ?_; · exact IX.out _) | refine Cu.wpList_conv rfl _ _ _ rfl .u8 .i64 K K (by rfl) (KC.out _) ?_ | refine wpW_build (by rfl) 25 #[(0, .tmp 15)] rfl [(0, .int .i64 K)] (by first | rfl | (simp [Act.eval, Act.put]; done)) _ (builtMK K) ?_ | refine wpList_storeM rfl _ _ rfl rfl (w1.heap.size) (⟨K, 0, 0, 0, 0, z32, z32, nilB⟩) rfl rfl _ RN.out ?_ | fail)
  try rw [hW3]
  generalize hg2 : w.heap.size = g2 at K3 ⊢
  generalize w1.heap.size = g4 at K3 ⊢
  clear hW1 hW2 hW3 RN IX KC hne hz0
  have c0 : w3.cell? ⟨g4, 0, none⟩ = some (.int .i64 K) := K3.out.rn.cell 0 (by omega)
  obtain rfl : K = 2 := by rw [← hK, hc]; rfl
  clear hK hc hb
  obtain ⟨u, n, E, hu⟩ : ∃ u n E, rdL b.data.toList = (u, n, E) := ⟨_, _, _, rfl⟩
  rw [hu] at RU HM
  clear hu
  go_wp2_with fail
  refine (RU.out _).mono ?_
  rintro e w4 ⟨rfl, hb4⟩
  obtain ⟨wn, w5, hWn, rn, hW5, r5, b5, _⟩ := newU2 w4 u
  have RN := hide rn
  have V5 := hide r5
  have K5 := hide ((K3.out.below hb4).below b5)
  clear rn r5 b5 hb4 K3 c0 RU
  go_upto_region 9 with (first | refine wpList_storeU rfl _ _ rfl rfl (w4.heap.size) (u) rfl rfl _ RN.out ?_ | fail)
  try rw [hW5]
  generalize w4.heap.size = g5 at V5 ⊢
  clear hWn hW5 RN
  by_cases hE : E = 0
  · subst hE
    by_cases hN : n = (b.size : Int)
    · subst hN
      have HY : Hid (rdM b.data.toList = (ofU u, 0)) := HM.out.trans (by rw [if_pos ⟨rfl, rfl⟩])
      have hq : ((b.size : Int) != (b.size : Int)) = false := by simp
      clear HM
      go_wp2_with (first | refine wpW_load_at 34 _ rfl (g5) (0) (by rfl) (by rfl) _ 36 _ (V5.out.at_ 0 (by omega) (fun i hi => by rw [Nat.zero_add])) Try.underlying34 rfl infoU ?_ | fail)
      refine (rof_any u _).mono ?_
      rintro e w6 ⟨rfl, hb6⟩
      have K6 := hide (K5.out.below hb6)
      clear hb6 K5 V5
      go_wp2_with (first | refine wpList_storeM rfl _ _ rfl rfl (g2) (ofU u) rfl rfl _ K6.out.rm ?_ | fail)
      (try simp only [Exit.inBlock, Exit.then])
      exact bodyPost_ret (resMT _ g2 _ _ (.int .i64 0) 2 3 (K6.out.rm.row _ (ofU u).v rfl) rfl rfl _ rfl) rfl (rdD_ok HY.out (eqM_refl _) rfl (by first | exact below_setRow K6.out.bel (Nat.le_refl _) _ | (rw [hg2]; exact below_setRow K6.out.bel (Nat.le_refl _) _)))
    · have HY : Hid (rdM b.data.toList = badM) := HM.out.trans (by rw [if_neg (fun h => hN h.2)])
      have hq : (n == (b.size : Int)) = false := beq_false_of_ne hN
      have hq2 : (n != (b.size : Int)) = true := bne_iff_ne.2 hN
      clear HM hN
      go_wp2_with (first | refine wpW_build (by rfl) 25 #[] rfl [] (by first | rfl | (simp [Act.eval, Act.put]; done)) _ builtMZ ?_ | refine wpList_storeM rfl _ _ rfl rfl (g2) (Msg.zero) rfl rfl _ K5.out.rm ?_ | fail)
      (try simp only [Exit.inBlock, Exit.then])
      exact bodyPost_ret (resMT _ g2 _ _ (.int .i64 160) 2 3 (K5.out.rm.row _ Msg.zero.v rfl) rfl rfl _ rfl) rfl (rdD_bad HY.out rfl (by first | exact below_setRow K5.out.bel (Nat.le_refl _) _ | (rw [hg2]; exact below_setRow K5.out.bel (Nat.le_refl _) _)))
  · have HY : Hid (rdM b.data.toList = badM) := HM.out.trans (by rw [if_neg (fun h => hE h.1)])
    have hq : (E == 0) = false := beq_false_of_ne hE
    have hq2 : (E != 0) = true := bne_iff_ne.2 hE
    clear HM hE
    go_wp2_with (first | refine wpW_build (by rfl) 25 #[] rfl [] (by first | rfl | (simp [Act.eval, Act.put]; done)) _ builtMZ ?_ | refine wpList_storeM rfl _ _ rfl rfl (g2) (Msg.zero) rfl rfl _ K5.out.rm ?_ | fail)
    (try simp only [Exit.inBlock, Exit.then])
    exact bodyPost_ret (resMT _ g2 _ _ (.int .i64 160) 2 3 (K5.out.rm.row _ Msg.zero.v rfl) rfl rfl _ rfl) rfl (rdD_bad HY.out rfl (by first | exact below_setRow K5.out.bel (Nat.le_refl _) _ | (rw [hg2]; exact below_setRow K5.out.bel (Nat.le_refl _) _)))
set_option maxRecDepth 100000 in
set_option maxHeartbeats 40000000 in
theorem rrM_3 (b : ByteArray) (c : UInt8) (r : List UInt8) (hb : b.data.toList = c :: r) (hz : b.size ≤ 281474976710656) (hc : c = 3) (w : World) : Calls Try.prog 17 #[.string b] w fun e w' => RdD w.heap.size b.data.toList w e w' := by
  have HM : Hid (rdM b.data.toList = if (rdL b.data.toList).2.2 = 0 ∧ (rdL b.data.toList).2.1 = (b.size : Int) then (ofU (rdL b.data.toList).1, 0) else badM) := by
    show _ = _
    unfold rdM
    rw [Cu.str_len]
    split
    · rfl
    · rw [hb]; exact rdO_upd c r (by rw [hc]; decide)
  have RU := hide (fun w : World => rread_any b w hz)
  have hne : b.toList.isEmpty = false := empty_false (by rw [← Cu.str_len, hb]; simp)
  have hz0 : (0 : Int) < (b.size : Int) := by rw [← Cu.str_len, hb]; simp only [List.length_cons]; omega
  have IX : Hid (∀ w : World, (Instr.index 9 (.string b) (.int .i64 0)).run Try.prog w = .ok (.int .u8 (c.toNat : Int)) w) := fun w => by
    have h := Cu.index_text b 0 (by rw [← Cu.str_len, hb]; simp) w
    rw [hb] at h
    exact h
  obtain ⟨K, hK⟩ : ∃ K : Int, ((c.toNat : Nat) : Int) = K := ⟨_, rfl⟩
  have hk256 := c.toNat_lt
  have KC : Hid (∀ w : World, (convert 5 3 (.int .u8 K)).run Try.prog w = .ok (.int .i64 K) w) := fun w => by
    have h := run_convert_int (P := Try.prog) (w := w) 5 3 .u8 K (by kernel_rfl) (by kernel_rfl)
    rw [show Try.prog.intKind 3 = .i64 by kernel_rfl, show IntKind.i64.wrap K = K by rw [IntKind.wrap_i64]; omega] at h
    exact h
  rw [hK] at IX
  clear hk256
  obtain ⟨w1, wX1, hW1, r1, _, _, _, b1⟩ := newM w Msg.zero
  have R1 := hide r1
  have G1 : Hid (Below w.heap.size w w1) := b1
  clear r1 b1
  obtain ⟨w2, w3, hW2, r2, hW3, r3, b3, b2⟩ := newM w1 ⟨K, 0, 0, 0, 0, z32, z32, nilB⟩
  have RN := hide r2
  have K3 : Hid (NV w w.heap.size w1.heap.size Msg.zero ⟨K, 0, 0, 0, 0, z32, z32, nilB⟩ w3) := ⟨R1.out.below b3 R1.out.lt, r3, G1.out.trans (b3.mono G1.out.size), R1.out.lt⟩
  clear r2 r3 b3 b2 R1 G1
  go_enter Try.func17, Try.ntmps17
  go_upto_region 4 with (first | (refine Cu.wpList_index_lit rfl _ _ _ rfl (.int .u8 K) ?_ ?_; · exact IX.out _) | refine Cu.wpList_conv rfl _ _ _ rfl .u8 .i64 K K (by rfl) (KC.out _) ?_ | refine wpW_build (by rfl) 25 #[(0, .tmp 15)] rfl [(0, .int .i64 K)] (by first | rfl | (simp [Act.eval, Act.put]; done)) _ (builtMK K) ?_ | refine wpList_storeM rfl _ _ rfl rfl (w1.heap.size) (⟨K, 0, 0, 0, 0, z32, z32, nilB⟩) rfl rfl _ RN.out ?_ | fail)
  try rw [hW3]
  generalize hg2 : w.heap.size = g2 at K3 ⊢
  generalize w1.heap.size = g4 at K3 ⊢
  clear hW1 hW2 hW3 RN IX KC hne hz0
  have c0 : w3.cell? ⟨g4, 0, none⟩ = some (.int .i64 K) := K3.out.rn.cell 0 (by omega)
  obtain rfl : K = 3 := by rw [← hK, hc]; rfl
  clear hK hc hb
  obtain ⟨u, n, E, hu⟩ : ∃ u n E, rdL b.data.toList = (u, n, E) := ⟨_, _, _, rfl⟩
  rw [hu] at RU HM
  clear hu
  go_wp2_with fail
  refine (RU.out _).mono ?_
  rintro e w4 ⟨rfl, hb4⟩
  obtain ⟨wn, w5, hWn, rn, hW5, r5, b5, _⟩ := newU2 w4 u
  have RN := hide rn
  have V5 := hide r5
  have K5 := hide ((K3.out.below hb4).below b5)
  clear rn r5 b5 hb4 K3 c0 RU
  go_upto_region 9 with (first | refine wpList_storeU rfl _ _ rfl rfl (w4.heap.size) (u) rfl rfl _ RN.out ?_ | fail)
  try rw [hW5]
  generalize w4.heap.size = g5 at V5 ⊢
  clear hWn hW5 RN
  by_cases hE : E = 0
  · subst hE
    by_cases hN : n = (b.size : Int)
    · subst hN
      have HY : Hid (rdM b.data.toList = (ofU u, 0)) := HM.out.trans (by rw [if_pos ⟨rfl, rfl⟩])
      have hq : ((b.size : Int) != (b.size : Int)) = false := by simp
      clear HM
      go_wp2_with (first | refine wpW_load_at 34 _ rfl (g5) (0) (by rfl) (by rfl) _ 36 _ (V5.out.at_ 0 (by omega) (fun i hi => by rw [Nat.zero_add])) Try.underlying34 rfl infoU ?_ | fail)
      refine (rof_any u _).mono ?_
      rintro e w6 ⟨rfl, hb6⟩
      have K6 := hide (K5.out.below hb6)
      clear hb6 K5 V5
      go_wp2_with (first | refine wpList_storeM rfl _ _ rfl rfl (g2) (ofU u) rfl rfl _ K6.out.rm ?_ | fail)
      (try simp only [Exit.inBlock, Exit.then])
      exact bodyPost_ret (resMT _ g2 _ _ (.int .i64 0) 2 3 (K6.out.rm.row _ (ofU u).v rfl) rfl rfl _ rfl) rfl (rdD_ok HY.out (eqM_refl _) rfl (by first | exact below_setRow K6.out.bel (Nat.le_refl _) _ | (rw [hg2]; exact below_setRow K6.out.bel (Nat.le_refl _) _)))
    · have HY : Hid (rdM b.data.toList = badM) := HM.out.trans (by rw [if_neg (fun h => hN h.2)])
      have hq : (n == (b.size : Int)) = false := beq_false_of_ne hN
      have hq2 : (n != (b.size : Int)) = true := bne_iff_ne.2 hN
      clear HM hN
      go_wp2_with (first | refine wpW_build (by rfl) 25 #[] rfl [] (by first | rfl | (simp [Act.eval, Act.put]; done)) _ builtMZ ?_ | refine wpList_storeM rfl _ _ rfl rfl (g2) (Msg.zero) rfl rfl _ K5.out.rm ?_ | fail)
      (try simp only [Exit.inBlock, Exit.then])
      exact bodyPost_ret (resMT _ g2 _ _ (.int .i64 160) 2 3 (K5.out.rm.row _ Msg.zero.v rfl) rfl rfl _ rfl) rfl (rdD_bad HY.out rfl (by first | exact below_setRow K5.out.bel (Nat.le_refl _) _ | (rw [hg2]; exact below_setRow K5.out.bel (Nat.le_refl _) _)))
  · have HY : Hid (rdM b.data.toList = badM) := HM.out.trans (by rw [if_neg (fun h => hE h.1)])
    have hq : (E == 0) = false := beq_false_of_ne hE
    have hq2 : (E != 0) = true := bne_iff_ne.2 hE
    clear HM hE
    go_wp2_with (first | refine wpW_build (by rfl) 25 #[] rfl [] (by first | rfl | (simp [Act.eval, Act.put]; done)) _ builtMZ ?_ | refine wpList_storeM rfl _ _ rfl rfl (g2) (Msg.zero) rfl rfl _ K5.out.rm ?_ | fail)
    (try simp only [Exit.inBlock, Exit.then])
    exact bodyPost_ret (resMT _ g2 _ _ (.int .i64 160) 2 3 (K5.out.rm.row _ Msg.zero.v rfl) rfl rfl _ rfl) rfl (rdD_bad HY.out rfl (by first | exact below_setRow K5.out.bel (Nat.le_refl _) _ | (rw [hg2]; exact below_setRow K5.out.bel (Nat.le_refl _) _)))
set_option maxRecDepth 100000 in
set_option maxHeartbeats 40000000 in
theorem rrM_4 (b : ByteArray) (c : UInt8) (r : List UInt8) (hb : b.data.toList = c :: r) (hz : b.size ≤ 281474976710656) (hc : c = 4) (w : World) : Calls Try.prog 17 #[.string b] w fun e w' => RdD w.heap.size b.data.toList w e w' := by
  have hne0 := fun x => doc_ne c r (by rw [hc]; decide) (by rw [hc]; decide) (by rw [hc]; decide) x
  rw [← hb, show c.toNat = 4 by rw [hc]; rfl] at hne0
  have C0 : Hid (∀ w : World, Calls Try.prog 37 #[.string b, .int .i64 1] w fun e w' => e = .returned (.int .i64 (numD b.data.toList 1)) ∧ w = w') := fun w => rnumM_any b 1 (by omega) hz w
  have C1 : Hid (∀ w : World, Calls Try.prog 38 #[.string b, .int .i64 9] w fun e w' => e = .returned (.agg (tabv (bv (hD b.data.toList 9)) 32)) ∧ Below w.heap.size w w') := fun w => rhashM_any b 9 (by omega) hz w
  unfold docM at hne0
  simp only [if_true, reduceIte] at hne0
  obtain ⟨N0, hN0⟩ : ∃ N, numD b.data.toList 1 = N := ⟨_, rfl⟩
  rw [hN0] at C0
  simp only [hN0] at hne0
  clear hN0
  obtain ⟨N1, hN1⟩ : ∃ N, hD b.data.toList 9 = N := ⟨_, rfl⟩
  rw [hN1] at C1
  simp only [hN1] at hne0
  clear hN1
  have HNE := hide hne0
  clear hne0
  have hne : b.toList.isEmpty = false := empty_false (by rw [← Cu.str_len, hb]; simp)
  have hz0 : (0 : Int) < (b.size : Int) := by rw [← Cu.str_len, hb]; simp only [List.length_cons]; omega
  have IX : Hid (∀ w : World, (Instr.index 9 (.string b) (.int .i64 0)).run Try.prog w = .ok (.int .u8 (c.toNat : Int)) w) := fun w => by
    have h := Cu.index_text b 0 (by rw [← Cu.str_len, hb]; simp) w
    rw [hb] at h
    exact h
  obtain ⟨K, hK⟩ : ∃ K : Int, ((c.toNat : Nat) : Int) = K := ⟨_, rfl⟩
  have hk256 := c.toNat_lt
  have KC : Hid (∀ w : World, (convert 5 3 (.int .u8 K)).run Try.prog w = .ok (.int .i64 K) w) := fun w => by
    have h := run_convert_int (P := Try.prog) (w := w) 5 3 .u8 K (by kernel_rfl) (by kernel_rfl)
    rw [show Try.prog.intKind 3 = .i64 by kernel_rfl, show IntKind.i64.wrap K = K by rw [IntKind.wrap_i64]; omega] at h
    exact h
  rw [hK] at IX
  clear hk256
  obtain ⟨w1, wX1, hW1, r1, _, _, _, b1⟩ := newM w Msg.zero
  have R1 := hide r1
  have G1 : Hid (Below w.heap.size w w1) := b1
  clear r1 b1
  obtain ⟨w2, w3, hW2, r2, hW3, r3, b3, b2⟩ := newM w1 ⟨K, 0, 0, 0, 0, z32, z32, nilB⟩
  have RN := hide r2
  have K3 : Hid (NV w w.heap.size w1.heap.size Msg.zero ⟨K, 0, 0, 0, 0, z32, z32, nilB⟩ w3) := ⟨R1.out.below b3 R1.out.lt, r3, G1.out.trans (b3.mono G1.out.size), R1.out.lt⟩
  clear r2 r3 b3 b2 R1 G1
  go_enter Try.func17, Try.ntmps17
  go_upto_region 4 with (first | (refine Cu.wpList_index_lit rfl _ _ _ rfl (.int .u8 K) ?_ ?_; · exact IX.out _) | refine Cu.wpList_conv rfl _ _ _ rfl .u8 .i64 K K (by rfl) (KC.out _) ?_ | refine wpW_build (by rfl) 25 #[(0, .tmp 15)] rfl [(0, .int .i64 K)] (by first | rfl | (simp [Act.eval, Act.put]; done)) _ (builtMK K) ?_ | refine wpList_storeM rfl _ _ rfl rfl (w1.heap.size) (⟨K, 0, 0, 0, 0, z32, z32, nilB⟩) rfl rfl _ RN.out ?_ | fail)
  try rw [hW3]
  generalize hg2 : w.heap.size = g2 at K3 ⊢
  generalize w1.heap.size = g4 at K3 ⊢
  clear hW1 hW2 hW3 RN IX KC hne hz0
  have c0 : w3.cell? ⟨g4, 0, none⟩ = some (.int .i64 K) := K3.out.rn.cell 0 (by omega)
  obtain rfl : K = 4 := by rw [← hK, hc]; rfl
  clear hK hc hb hz
  go_upto_region 13 with fail
  go_wp2_with fail
  refine (C0.out _).mono ?_
  rintro e wv ⟨rfl, rfl⟩
  have cZ : w3.cell? ⟨g4, 3, none⟩ = some (.int .i64 0) := K3.out.rn.cell 3 (by omega)
  have fZ := K3.out.rn.frozen 3
  obtain ⟨w5, hWq⟩ : ∃ z, w3.setCell ⟨g4, 3, none⟩ (.int .i64 N0) = z := ⟨_, rfl⟩
  have K5 : Hid (NV w g2 g4 Msg.zero ⟨4, 0, 0, N0, 0, z32, z32, nilB⟩ w5) := by rw [← hWq]; exact K3.out.set 3 _ (K3.out.rn.setIdx _)
  go_upto_region 14 with fail
  try rw [hWq]
  clear hWq cZ fZ K3 C0
  go_wp2_with fail
  refine (C1.out _).mono ?_
  rintro e w6 ⟨rfl, hbq⟩
  have K6 := hide (K5.out.below hbq)
  obtain ⟨w7, hWq⟩ : ∃ z, w6.setRow g4 (tabv (Msg.v ⟨4, 0, 0, N0, 0, N1, z32, nilB⟩) 70) = z := ⟨_, rfl⟩
  have K7 : Hid (NV w g2 g4 Msg.zero ⟨4, 0, 0, N0, 0, N1, z32, nilB⟩ w7) := by rw [← hWq]; exact K6.out.row _
  clear hbq K5
  go_upto_region 25 with (first | refine wpList_storeMH rfl _ _ rfl rfl g4 ⟨4, 0, 0, N0, 0, z32, z32, nilB⟩ N1 rfl rfl K6.out.rn ?_ | fail)
  try rw [hWq]
  clear hWq K6 C1
  clear c0
  have WM := hide (rwriteM_any ⟨4, 0, 0, N0, 0, N1, z32, nilB⟩)
  cases hv : validM ⟨4, 0, 0, N0, 0, N1, z32, nilB⟩ with
  | false =>
    have HY : Hid (rdM b.data.toList = badM) := doc_no HNE.out (fun h => by rw [hv] at h; cases h.1)
    rw [show wrE ⟨4, 0, 0, N0, 0, N1, z32, nilB⟩ = 160 by unfold wrE; rw [hv]; rfl] at WM
    clear hv
    go_wp2_with (first | refine wpW_load_at 25 _ rfl (g4) (0) (by rfl) (by rfl) _ 70 _ (K7.out.rn.at_ 0 (by omega) (fun i hi => by rw [Nat.zero_add])) Try.underlying25 rfl infoM ?_ | fail)
    refine (WM.out _).mono ?_
    rintro e wz ⟨rfl, hbz⟩
    have KZ := hide (K7.out.below hbz)
    clear hbz
    go_wp2_with (first | refine wpW_build (by rfl) 25 #[] rfl [] (by first | rfl | (simp [Act.eval, Act.put]; done)) _ builtMZ ?_ | refine wpList_storeM rfl _ _ rfl rfl (g2) (Msg.zero) rfl rfl _ KZ.out.rm ?_ | fail)
    (try simp only [Exit.inBlock, Exit.then])
    exact bodyPost_ret (resMT _ g2 _ _ (.int .i64 160) 2 3 (KZ.out.rm.row _ Msg.zero.v rfl) rfl rfl _ rfl) rfl (rdD_bad HY.out rfl (by first | exact below_setRow KZ.out.bel (Nat.le_refl _) _ | (rw [hg2]; exact below_setRow KZ.out.bel (Nat.le_refl _) _)))
  | true =>
    rw [show wrS ⟨4, 0, 0, N0, 0, N1, z32, nilB⟩ = ofL (bytesM ⟨4, 0, 0, N0, 0, N1, z32, nilB⟩) by unfold wrS; rw [if_pos hv], show wrE ⟨4, 0, 0, N0, 0, N1, z32, nilB⟩ = 0 by unfold wrE; rw [if_pos hv]] at WM
    by_cases he : bytesM ⟨4, 0, 0, N0, 0, N1, z32, nilB⟩ = b.data.toList
    · obtain ⟨x, hx1, hx2⟩ := doc_yes hv he
      have HY : Hid (rdM b.data.toList = (x, 0) ∧ eqM x ⟨4, 0, 0, N0, 0, N1, z32, nilB⟩ = true) := ⟨hx1, hx2⟩
      rw [he, Cu.ofL_of] at WM
      have hq : (b.toList == b.toList) = true := beq_self_eq_true _
      have hq2 : (b.toList != b.toList) = false := by simp
      clear hv he hx1 hx2 HNE
      go_wp2_with (first | refine wpW_load_at 25 _ rfl (g4) (0) (by rfl) (by rfl) _ 70 _ (K7.out.rn.at_ 0 (by omega) (fun i hi => by rw [Nat.zero_add])) Try.underlying25 rfl infoM ?_ | fail)
      refine (WM.out _).mono ?_
      rintro e wz ⟨rfl, hbz⟩
      have KZ := hide (K7.out.below hbz)
      clear hbz
      go_wp2_with (first | refine wpW_load_at 25 _ rfl (g4) (0) (by rfl) (by rfl) _ 70 _ (KZ.out.rn.at_ 0 (by omega) (fun i hi => by rw [Nat.zero_add])) Try.underlying25 rfl infoM ?_ | refine wpList_storeM rfl _ _ rfl rfl (g2) (⟨4, 0, 0, N0, 0, N1, z32, nilB⟩) rfl rfl _ KZ.out.rm ?_ | fail)
      (try simp only [Exit.inBlock, Exit.then])
      exact bodyPost_ret (resMT _ g2 _ _ (.int .i64 0) 2 3 (KZ.out.rm.row _ (Msg.v ⟨4, 0, 0, N0, 0, N1, z32, nilB⟩) rfl) rfl rfl _ rfl) rfl (rdD_ok HY.out.1 HY.out.2 rfl (by first | exact below_setRow KZ.out.bel (Nat.le_refl _) _ | (rw [hg2]; exact below_setRow KZ.out.bel (Nat.le_refl _) _)))
    · have HY : Hid (rdM b.data.toList = badM) := doc_no HNE.out (fun h => he h.2)
      have hq0 : ¬((ofL (bytesM ⟨4, 0, 0, N0, 0, N1, z32, nilB⟩)).toList = b.toList) := fun h => he (by have := noteEq h; rw [← this, Cu.ofL_data])
      generalize ofL (bytesM ⟨4, 0, 0, N0, 0, N1, z32, nilB⟩) = S at WM hq0
      have hq : (S.toList == b.toList) = false := beq_false_of_ne hq0
      have hq2 : (S.toList != b.toList) = true := bne_iff_ne.2 hq0
      clear hv he hq0 HNE
      go_wp2_with (first | refine wpW_load_at 25 _ rfl (g4) (0) (by rfl) (by rfl) _ 70 _ (K7.out.rn.at_ 0 (by omega) (fun i hi => by rw [Nat.zero_add])) Try.underlying25 rfl infoM ?_ | fail)
      refine (WM.out _).mono ?_
      rintro e wz ⟨rfl, hbz⟩
      have KZ := hide (K7.out.below hbz)
      clear hbz
      go_wp2_with (first | refine wpW_build (by rfl) 25 #[] rfl [] (by first | rfl | (simp [Act.eval, Act.put]; done)) _ builtMZ ?_ | refine wpList_storeM rfl _ _ rfl rfl (g2) (Msg.zero) rfl rfl _ KZ.out.rm ?_ | fail)
      (try simp only [Exit.inBlock, Exit.then])
      exact bodyPost_ret (resMT _ g2 _ _ (.int .i64 160) 2 3 (KZ.out.rm.row _ Msg.zero.v rfl) rfl rfl _ rfl) rfl (rdD_bad HY.out rfl (by first | exact below_setRow KZ.out.bel (Nat.le_refl _) _ | (rw [hg2]; exact below_setRow KZ.out.bel (Nat.le_refl _) _)))
set_option maxRecDepth 100000 in
set_option maxHeartbeats 40000000 in
theorem rrM_5 (b : ByteArray) (c : UInt8) (r : List UInt8) (hb : b.data.toList = c :: r) (hz : b.size ≤ 281474976710656) (hc : c = 5) (w : World) : Calls Try.prog 17 #[.string b] w fun e w' => RdD w.heap.size b.data.toList w e w' := by
  have hne0 := fun x => doc_ne c r (by rw [hc]; decide) (by rw [hc]; decide) (by rw [hc]; decide) x
  rw [← hb, show c.toNat = 5 by rw [hc]; rfl] at hne0
  have C0 : Hid (∀ w : World, Calls Try.prog 37 #[.string b, .int .i64 1] w fun e w' => e = .returned (.int .i64 (numD b.data.toList 1)) ∧ w = w') := fun w => rnumM_any b 1 (by omega) hz w
  have C1 : Hid (∀ w : World, Calls Try.prog 38 #[.string b, .int .i64 9] w fun e w' => e = .returned (.agg (tabv (bv (hD b.data.toList 9)) 32)) ∧ Below w.heap.size w w') := fun w => rhashM_any b 9 (by omega) hz w
  have C2 : Hid (∀ w : World, Calls Try.prog 38 #[.string b, .int .i64 41] w fun e w' => e = .returned (.agg (tabv (bv (hD b.data.toList 41)) 32)) ∧ Below w.heap.size w w') := fun w => rhashM_any b 41 (by omega) hz w
  unfold docM at hne0
  simp only [show ¬(5 = 4) by decide, if_true, if_false, reduceIte] at hne0
  obtain ⟨N0, hN0⟩ : ∃ N, numD b.data.toList 1 = N := ⟨_, rfl⟩
  rw [hN0] at C0
  simp only [hN0] at hne0
  clear hN0
  obtain ⟨N1, hN1⟩ : ∃ N, hD b.data.toList 9 = N := ⟨_, rfl⟩
  rw [hN1] at C1
  simp only [hN1] at hne0
  clear hN1
  obtain ⟨N2, hN2⟩ : ∃ N, hD b.data.toList 41 = N := ⟨_, rfl⟩
  rw [hN2] at C2
  simp only [hN2] at hne0
  clear hN2
  have HNE := hide hne0
  clear hne0
  have hne : b.toList.isEmpty = false := empty_false (by rw [← Cu.str_len, hb]; simp)
  have hz0 : (0 : Int) < (b.size : Int) := by rw [← Cu.str_len, hb]; simp only [List.length_cons]; omega
  have IX : Hid (∀ w : World, (Instr.index 9 (.string b) (.int .i64 0)).run Try.prog w = .ok (.int .u8 (c.toNat : Int)) w) := fun w => by
    have h := Cu.index_text b 0 (by rw [← Cu.str_len, hb]; simp) w
    rw [hb] at h
    exact h
  obtain ⟨K, hK⟩ : ∃ K : Int, ((c.toNat : Nat) : Int) = K := ⟨_, rfl⟩
  have hk256 := c.toNat_lt
  have KC : Hid (∀ w : World, (convert 5 3 (.int .u8 K)).run Try.prog w = .ok (.int .i64 K) w) := fun w => by
    have h := run_convert_int (P := Try.prog) (w := w) 5 3 .u8 K (by kernel_rfl) (by kernel_rfl)
    rw [show Try.prog.intKind 3 = .i64 by kernel_rfl, show IntKind.i64.wrap K = K by rw [IntKind.wrap_i64]; omega] at h
    exact h
  rw [hK] at IX
  clear hk256
  obtain ⟨w1, wX1, hW1, r1, _, _, _, b1⟩ := newM w Msg.zero
  have R1 := hide r1
  have G1 : Hid (Below w.heap.size w w1) := b1
  clear r1 b1
  obtain ⟨w2, w3, hW2, r2, hW3, r3, b3, b2⟩ := newM w1 ⟨K, 0, 0, 0, 0, z32, z32, nilB⟩
  have RN := hide r2
  have K3 : Hid (NV w w.heap.size w1.heap.size Msg.zero ⟨K, 0, 0, 0, 0, z32, z32, nilB⟩ w3) := ⟨R1.out.below b3 R1.out.lt, r3, G1.out.trans (b3.mono G1.out.size), R1.out.lt⟩
  clear r2 r3 b3 b2 R1 G1
  go_enter Try.func17, Try.ntmps17
  go_upto_region 4 with (first | (refine Cu.wpList_index_lit rfl _ _ _ rfl (.int .u8 K) ?_ ?_; · exact IX.out _) | refine Cu.wpList_conv rfl _ _ _ rfl .u8 .i64 K K (by rfl) (KC.out _) ?_ | refine wpW_build (by rfl) 25 #[(0, .tmp 15)] rfl [(0, .int .i64 K)] (by first | rfl | (simp [Act.eval, Act.put]; done)) _ (builtMK K) ?_ | refine wpList_storeM rfl _ _ rfl rfl (w1.heap.size) (⟨K, 0, 0, 0, 0, z32, z32, nilB⟩) rfl rfl _ RN.out ?_ | fail)
  try rw [hW3]
  generalize hg2 : w.heap.size = g2 at K3 ⊢
  generalize w1.heap.size = g4 at K3 ⊢
  clear hW1 hW2 hW3 RN IX KC hne hz0
  have c0 : w3.cell? ⟨g4, 0, none⟩ = some (.int .i64 K) := K3.out.rn.cell 0 (by omega)
  obtain rfl : K = 5 := by rw [← hK, hc]; rfl
  clear hK hc hb hz
  go_upto_region 16 with fail
  go_wp2_with fail
  refine (C0.out _).mono ?_
  rintro e wv ⟨rfl, rfl⟩
  have cZ : w3.cell? ⟨g4, 3, none⟩ = some (.int .i64 0) := K3.out.rn.cell 3 (by omega)
  have fZ := K3.out.rn.frozen 3
  obtain ⟨w5, hWq⟩ : ∃ z, w3.setCell ⟨g4, 3, none⟩ (.int .i64 N0) = z := ⟨_, rfl⟩
  have K5 : Hid (NV w g2 g4 Msg.zero ⟨5, 0, 0, N0, 0, z32, z32, nilB⟩ w5) := by rw [← hWq]; exact K3.out.set 3 _ (K3.out.rn.setIdx _)
  go_upto_region 17 with fail
  try rw [hWq]
  clear hWq cZ fZ K3 C0
  go_wp2_with fail
  refine (C1.out _).mono ?_
  rintro e w6 ⟨rfl, hbq⟩
  have K6 := hide (K5.out.below hbq)
  obtain ⟨w7, hWq⟩ : ∃ z, w6.setRow g4 (tabv (Msg.v ⟨5, 0, 0, N0, 0, z32, N1, nilB⟩) 70) = z := ⟨_, rfl⟩
  have K7 : Hid (NV w g2 g4 Msg.zero ⟨5, 0, 0, N0, 0, z32, N1, nilB⟩ w7) := by rw [← hWq]; exact K6.out.row _
  clear hbq K5
  go_upto_region 18 with (first | refine wpList_storeMS rfl _ _ rfl rfl g4 ⟨5, 0, 0, N0, 0, z32, z32, nilB⟩ N1 rfl rfl K6.out.rn ?_ | fail)
  try rw [hWq]
  clear hWq K6 C1
  go_wp2_with fail
  refine (C2.out _).mono ?_
  rintro e w8 ⟨rfl, hbq⟩
  have K8 := hide (K7.out.below hbq)
  obtain ⟨w9, hWq⟩ : ∃ z, w8.setRow g4 (tabv (Msg.v ⟨5, 0, 0, N0, 0, N2, N1, nilB⟩) 70) = z := ⟨_, rfl⟩
  have K9 : Hid (NV w g2 g4 Msg.zero ⟨5, 0, 0, N0, 0, N2, N1, nilB⟩ w9) := by rw [← hWq]; exact K8.out.row _
  clear hbq K7
  go_upto_region 25 with (first | refine wpList_storeMH rfl _ _ rfl rfl g4 ⟨5, 0, 0, N0, 0, z32, N1, nilB⟩ N2 rfl rfl K8.out.rn ?_ | fail)
  try rw [hWq]
  clear hWq K8 C2
  clear c0
  have WM := hide (rwriteM_any ⟨5, 0, 0, N0, 0, N2, N1, nilB⟩)
  cases hv : validM ⟨5, 0, 0, N0, 0, N2, N1, nilB⟩ with
  | false =>
    have HY : Hid (rdM b.data.toList = badM) := doc_no HNE.out (fun h => by rw [hv] at h; cases h.1)
    rw [show wrE ⟨5, 0, 0, N0, 0, N2, N1, nilB⟩ = 160 by unfold wrE; rw [hv]; rfl] at WM
    clear hv
    go_wp2_with (first | refine wpW_load_at 25 _ rfl (g4) (0) (by rfl) (by rfl) _ 70 _ (K9.out.rn.at_ 0 (by omega) (fun i hi => by rw [Nat.zero_add])) Try.underlying25 rfl infoM ?_ | fail)
    refine (WM.out _).mono ?_
    rintro e wz ⟨rfl, hbz⟩
    have KZ := hide (K9.out.below hbz)
    clear hbz
    go_wp2_with (first | refine wpW_build (by rfl) 25 #[] rfl [] (by first | rfl | (simp [Act.eval, Act.put]; done)) _ builtMZ ?_ | refine wpList_storeM rfl _ _ rfl rfl (g2) (Msg.zero) rfl rfl _ KZ.out.rm ?_ | fail)
    (try simp only [Exit.inBlock, Exit.then])
    exact bodyPost_ret (resMT _ g2 _ _ (.int .i64 160) 2 3 (KZ.out.rm.row _ Msg.zero.v rfl) rfl rfl _ rfl) rfl (rdD_bad HY.out rfl (by first | exact below_setRow KZ.out.bel (Nat.le_refl _) _ | (rw [hg2]; exact below_setRow KZ.out.bel (Nat.le_refl _) _)))
  | true =>
    rw [show wrS ⟨5, 0, 0, N0, 0, N2, N1, nilB⟩ = ofL (bytesM ⟨5, 0, 0, N0, 0, N2, N1, nilB⟩) by unfold wrS; rw [if_pos hv], show wrE ⟨5, 0, 0, N0, 0, N2, N1, nilB⟩ = 0 by unfold wrE; rw [if_pos hv]] at WM
    by_cases he : bytesM ⟨5, 0, 0, N0, 0, N2, N1, nilB⟩ = b.data.toList
    · obtain ⟨x, hx1, hx2⟩ := doc_yes hv he
      have HY : Hid (rdM b.data.toList = (x, 0) ∧ eqM x ⟨5, 0, 0, N0, 0, N2, N1, nilB⟩ = true) := ⟨hx1, hx2⟩
      rw [he, Cu.ofL_of] at WM
      have hq : (b.toList == b.toList) = true := beq_self_eq_true _
      have hq2 : (b.toList != b.toList) = false := by simp
      clear hv he hx1 hx2 HNE
      go_wp2_with (first | refine wpW_load_at 25 _ rfl (g4) (0) (by rfl) (by rfl) _ 70 _ (K9.out.rn.at_ 0 (by omega) (fun i hi => by rw [Nat.zero_add])) Try.underlying25 rfl infoM ?_ | fail)
      refine (WM.out _).mono ?_
      rintro e wz ⟨rfl, hbz⟩
      have KZ := hide (K9.out.below hbz)
      clear hbz
      go_wp2_with (first | refine wpW_load_at 25 _ rfl (g4) (0) (by rfl) (by rfl) _ 70 _ (KZ.out.rn.at_ 0 (by omega) (fun i hi => by rw [Nat.zero_add])) Try.underlying25 rfl infoM ?_ | refine wpList_storeM rfl _ _ rfl rfl (g2) (⟨5, 0, 0, N0, 0, N2, N1, nilB⟩) rfl rfl _ KZ.out.rm ?_ | fail)
      (try simp only [Exit.inBlock, Exit.then])
      exact bodyPost_ret (resMT _ g2 _ _ (.int .i64 0) 2 3 (KZ.out.rm.row _ (Msg.v ⟨5, 0, 0, N0, 0, N2, N1, nilB⟩) rfl) rfl rfl _ rfl) rfl (rdD_ok HY.out.1 HY.out.2 rfl (by first | exact below_setRow KZ.out.bel (Nat.le_refl _) _ | (rw [hg2]; exact below_setRow KZ.out.bel (Nat.le_refl _) _)))
    · have HY : Hid (rdM b.data.toList = badM) := doc_no HNE.out (fun h => he h.2)
      have hq0 : ¬((ofL (bytesM ⟨5, 0, 0, N0, 0, N2, N1, nilB⟩)).toList = b.toList) := fun h => he (by have := noteEq h; rw [← this, Cu.ofL_data])
      generalize ofL (bytesM ⟨5, 0, 0, N0, 0, N2, N1, nilB⟩) = S at WM hq0
      have hq : (S.toList == b.toList) = false := beq_false_of_ne hq0
      have hq2 : (S.toList != b.toList) = true := bne_iff_ne.2 hq0
      clear hv he hq0 HNE
      go_wp2_with (first | refine wpW_load_at 25 _ rfl (g4) (0) (by rfl) (by rfl) _ 70 _ (K9.out.rn.at_ 0 (by omega) (fun i hi => by rw [Nat.zero_add])) Try.underlying25 rfl infoM ?_ | fail)
      refine (WM.out _).mono ?_
      rintro e wz ⟨rfl, hbz⟩
      have KZ := hide (K9.out.below hbz)
      clear hbz
      go_wp2_with (first | refine wpW_build (by rfl) 25 #[] rfl [] (by first | rfl | (simp [Act.eval, Act.put]; done)) _ builtMZ ?_ | refine wpList_storeM rfl _ _ rfl rfl (g2) (Msg.zero) rfl rfl _ KZ.out.rm ?_ | fail)
      (try simp only [Exit.inBlock, Exit.then])
      exact bodyPost_ret (resMT _ g2 _ _ (.int .i64 160) 2 3 (KZ.out.rm.row _ Msg.zero.v rfl) rfl rfl _ rfl) rfl (rdD_bad HY.out rfl (by first | exact below_setRow KZ.out.bel (Nat.le_refl _) _ | (rw [hg2]; exact below_setRow KZ.out.bel (Nat.le_refl _) _)))
set_option maxRecDepth 100000 in
set_option maxHeartbeats 40000000 in
theorem rrM_6 (b : ByteArray) (c : UInt8) (r : List UInt8) (hb : b.data.toList = c :: r) (hz : b.size ≤ 281474976710656) (hc : c = 6) (w : World) : Calls Try.prog 17 #[.string b] w fun e w' => RdD w.heap.size b.data.toList w e w' := by
  have hne0 := fun x => doc_ne c r (by rw [hc]; decide) (by rw [hc]; decide) (by rw [hc]; decide) x
  rw [← hb, show c.toNat = 6 by rw [hc]; rfl] at hne0
  have C0 : Hid (∀ w : World, Calls Try.prog 37 #[.string b, .int .i64 1] w fun e w' => e = .returned (.int .i64 (numD b.data.toList 1)) ∧ w = w') := fun w => rnumM_any b 1 (by omega) hz w
  have C1 : Hid (∀ w : World, Calls Try.prog 37 #[.string b, .int .i64 9] w fun e w' => e = .returned (.int .i64 (numD b.data.toList 9)) ∧ w = w') := fun w => rnumM_any b 9 (by omega) hz w
  have C2 : Hid (∀ w : World, Calls Try.prog 38 #[.string b, .int .i64 17] w fun e w' => e = .returned (.agg (tabv (bv (hD b.data.toList 17)) 32)) ∧ Below w.heap.size w w') := fun w => rhashM_any b 17 (by omega) hz w
  unfold docM at hne0
  simp only [show ¬(6 = 4) by decide, show ¬(6 = 5) by decide, if_true, if_false, reduceIte] at hne0
  obtain ⟨N0, hN0⟩ : ∃ N, numD b.data.toList 1 = N := ⟨_, rfl⟩
  rw [hN0] at C0
  simp only [hN0] at hne0
  clear hN0
  obtain ⟨N1, hN1⟩ : ∃ N, numD b.data.toList 9 = N := ⟨_, rfl⟩
  rw [hN1] at C1
  simp only [hN1] at hne0
  clear hN1
  obtain ⟨N2, hN2⟩ : ∃ N, hD b.data.toList 17 = N := ⟨_, rfl⟩
  rw [hN2] at C2
  simp only [hN2] at hne0
  clear hN2
  have HNE := hide hne0
  clear hne0
  have hne : b.toList.isEmpty = false := empty_false (by rw [← Cu.str_len, hb]; simp)
  have hz0 : (0 : Int) < (b.size : Int) := by rw [← Cu.str_len, hb]; simp only [List.length_cons]; omega
  have IX : Hid (∀ w : World, (Instr.index 9 (.string b) (.int .i64 0)).run Try.prog w = .ok (.int .u8 (c.toNat : Int)) w) := fun w => by
    have h := Cu.index_text b 0 (by rw [← Cu.str_len, hb]; simp) w
    rw [hb] at h
    exact h
  obtain ⟨K, hK⟩ : ∃ K : Int, ((c.toNat : Nat) : Int) = K := ⟨_, rfl⟩
  have hk256 := c.toNat_lt
  have KC : Hid (∀ w : World, (convert 5 3 (.int .u8 K)).run Try.prog w = .ok (.int .i64 K) w) := fun w => by
    have h := run_convert_int (P := Try.prog) (w := w) 5 3 .u8 K (by kernel_rfl) (by kernel_rfl)
    rw [show Try.prog.intKind 3 = .i64 by kernel_rfl, show IntKind.i64.wrap K = K by rw [IntKind.wrap_i64]; omega] at h
    exact h
  rw [hK] at IX
  clear hk256
  obtain ⟨w1, wX1, hW1, r1, _, _, _, b1⟩ := newM w Msg.zero
  have R1 := hide r1
  have G1 : Hid (Below w.heap.size w w1) := b1
  clear r1 b1
  obtain ⟨w2, w3, hW2, r2, hW3, r3, b3, b2⟩ := newM w1 ⟨K, 0, 0, 0, 0, z32, z32, nilB⟩
  have RN := hide r2
  have K3 : Hid (NV w w.heap.size w1.heap.size Msg.zero ⟨K, 0, 0, 0, 0, z32, z32, nilB⟩ w3) := ⟨R1.out.below b3 R1.out.lt, r3, G1.out.trans (b3.mono G1.out.size), R1.out.lt⟩
  clear r2 r3 b3 b2 R1 G1
  go_enter Try.func17, Try.ntmps17
  go_upto_region 4 with (first | (refine Cu.wpList_index_lit rfl _ _ _ rfl (.int .u8 K) ?_ ?_; · exact IX.out _) | refine Cu.wpList_conv rfl _ _ _ rfl .u8 .i64 K K (by rfl) (KC.out _) ?_ | refine wpW_build (by rfl) 25 #[(0, .tmp 15)] rfl [(0, .int .i64 K)] (by first | rfl | (simp [Act.eval, Act.put]; done)) _ (builtMK K) ?_ | refine wpList_storeM rfl _ _ rfl rfl (w1.heap.size) (⟨K, 0, 0, 0, 0, z32, z32, nilB⟩) rfl rfl _ RN.out ?_ | fail)
  try rw [hW3]
  generalize hg2 : w.heap.size = g2 at K3 ⊢
  generalize w1.heap.size = g4 at K3 ⊢
  clear hW1 hW2 hW3 RN IX KC hne hz0
  have c0 : w3.cell? ⟨g4, 0, none⟩ = some (.int .i64 K) := K3.out.rn.cell 0 (by omega)
  obtain rfl : K = 6 := by rw [← hK, hc]; rfl
  clear hK hc hb hz
  go_upto_region 20 with fail
  go_wp2_with fail
  refine (C0.out _).mono ?_
  rintro e wv ⟨rfl, rfl⟩
  have cZ : w3.cell? ⟨g4, 3, none⟩ = some (.int .i64 0) := K3.out.rn.cell 3 (by omega)
  have fZ := K3.out.rn.frozen 3
  obtain ⟨w5, hWq⟩ : ∃ z, w3.setCell ⟨g4, 3, none⟩ (.int .i64 N0) = z := ⟨_, rfl⟩
  have K5 : Hid (NV w g2 g4 Msg.zero ⟨6, 0, 0, N0, 0, z32, z32, nilB⟩ w5) := by rw [← hWq]; exact K3.out.set 3 _ (K3.out.rn.setIdx _)
  go_upto_region 21 with fail
  try rw [hWq]
  clear hWq cZ fZ K3 C0
  go_wp2_with fail
  refine (C1.out _).mono ?_
  rintro e wv ⟨rfl, rfl⟩
  have cZ : w5.cell? ⟨g4, 4, none⟩ = some (.int .i64 0) := K5.out.rn.cell 4 (by omega)
  have fZ := K5.out.rn.frozen 4
  obtain ⟨w7, hWq⟩ : ∃ z, w5.setCell ⟨g4, 4, none⟩ (.int .i64 N1) = z := ⟨_, rfl⟩
  have K7 : Hid (NV w g2 g4 Msg.zero ⟨6, 0, 0, N0, N1, z32, z32, nilB⟩ w7) := by rw [← hWq]; exact K5.out.set 4 _ (K5.out.rn.setNxt _)
  go_upto_region 22 with fail
  try rw [hWq]
  clear hWq cZ fZ K5 C1
  go_wp2_with fail
  refine (C2.out _).mono ?_
  rintro e w8 ⟨rfl, hbq⟩
  have K8 := hide (K7.out.below hbq)
  obtain ⟨w9, hWq⟩ : ∃ z, w8.setRow g4 (tabv (Msg.v ⟨6, 0, 0, N0, N1, z32, N2, nilB⟩) 70) = z := ⟨_, rfl⟩
  have K9 : Hid (NV w g2 g4 Msg.zero ⟨6, 0, 0, N0, N1, z32, N2, nilB⟩ w9) := by rw [← hWq]; exact K8.out.row _
  clear hbq K7
  go_upto_region 25 with (first | refine wpList_storeMS rfl _ _ rfl rfl g4 ⟨6, 0, 0, N0, N1, z32, z32, nilB⟩ N2 rfl rfl K8.out.rn ?_ | fail)
  try rw [hWq]
  clear hWq K8 C2
  clear c0
  have WM := hide (rwriteM_any ⟨6, 0, 0, N0, N1, z32, N2, nilB⟩)
  cases hv : validM ⟨6, 0, 0, N0, N1, z32, N2, nilB⟩ with
  | false =>
    have HY : Hid (rdM b.data.toList = badM) := doc_no HNE.out (fun h => by rw [hv] at h; cases h.1)
    rw [show wrE ⟨6, 0, 0, N0, N1, z32, N2, nilB⟩ = 160 by unfold wrE; rw [hv]; rfl] at WM
    clear hv
    go_wp2_with (first | refine wpW_load_at 25 _ rfl (g4) (0) (by rfl) (by rfl) _ 70 _ (K9.out.rn.at_ 0 (by omega) (fun i hi => by rw [Nat.zero_add])) Try.underlying25 rfl infoM ?_ | fail)
    refine (WM.out _).mono ?_
    rintro e wz ⟨rfl, hbz⟩
    have KZ := hide (K9.out.below hbz)
    clear hbz
    go_wp2_with (first | refine wpW_build (by rfl) 25 #[] rfl [] (by first | rfl | (simp [Act.eval, Act.put]; done)) _ builtMZ ?_ | refine wpList_storeM rfl _ _ rfl rfl (g2) (Msg.zero) rfl rfl _ KZ.out.rm ?_ | fail)
    (try simp only [Exit.inBlock, Exit.then])
    exact bodyPost_ret (resMT _ g2 _ _ (.int .i64 160) 2 3 (KZ.out.rm.row _ Msg.zero.v rfl) rfl rfl _ rfl) rfl (rdD_bad HY.out rfl (by first | exact below_setRow KZ.out.bel (Nat.le_refl _) _ | (rw [hg2]; exact below_setRow KZ.out.bel (Nat.le_refl _) _)))
  | true =>
    rw [show wrS ⟨6, 0, 0, N0, N1, z32, N2, nilB⟩ = ofL (bytesM ⟨6, 0, 0, N0, N1, z32, N2, nilB⟩) by unfold wrS; rw [if_pos hv], show wrE ⟨6, 0, 0, N0, N1, z32, N2, nilB⟩ = 0 by unfold wrE; rw [if_pos hv]] at WM
    by_cases he : bytesM ⟨6, 0, 0, N0, N1, z32, N2, nilB⟩ = b.data.toList
    · obtain ⟨x, hx1, hx2⟩ := doc_yes hv he
      have HY : Hid (rdM b.data.toList = (x, 0) ∧ eqM x ⟨6, 0, 0, N0, N1, z32, N2, nilB⟩ = true) := ⟨hx1, hx2⟩
      rw [he, Cu.ofL_of] at WM
      have hq : (b.toList == b.toList) = true := beq_self_eq_true _
      have hq2 : (b.toList != b.toList) = false := by simp
      clear hv he hx1 hx2 HNE
      go_wp2_with (first | refine wpW_load_at 25 _ rfl (g4) (0) (by rfl) (by rfl) _ 70 _ (K9.out.rn.at_ 0 (by omega) (fun i hi => by rw [Nat.zero_add])) Try.underlying25 rfl infoM ?_ | fail)
      refine (WM.out _).mono ?_
      rintro e wz ⟨rfl, hbz⟩
      have KZ := hide (K9.out.below hbz)
      clear hbz
      go_wp2_with (first | refine wpW_load_at 25 _ rfl (g4) (0) (by rfl) (by rfl) _ 70 _ (KZ.out.rn.at_ 0 (by omega) (fun i hi => by rw [Nat.zero_add])) Try.underlying25 rfl infoM ?_ | refine wpList_storeM rfl _ _ rfl rfl (g2) (⟨6, 0, 0, N0, N1, z32, N2, nilB⟩) rfl rfl _ KZ.out.rm ?_ | fail)
      (try simp only [Exit.inBlock, Exit.then])
      exact bodyPost_ret (resMT _ g2 _ _ (.int .i64 0) 2 3 (KZ.out.rm.row _ (Msg.v ⟨6, 0, 0, N0, N1, z32, N2, nilB⟩) rfl) rfl rfl _ rfl) rfl (rdD_ok HY.out.1 HY.out.2 rfl (by first | exact below_setRow KZ.out.bel (Nat.le_refl _) _ | (rw [hg2]; exact below_setRow KZ.out.bel (Nat.le_refl _) _)))
    · have HY : Hid (rdM b.data.toList = badM) := doc_no HNE.out (fun h => he h.2)
      have hq0 : ¬((ofL (bytesM ⟨6, 0, 0, N0, N1, z32, N2, nilB⟩)).toList = b.toList) := fun h => he (by have := noteEq h; rw [← this, Cu.ofL_data])
      generalize ofL (bytesM ⟨6, 0, 0, N0, N1, z32, N2, nilB⟩) = S at WM hq0
      have hq : (S.toList == b.toList) = false := beq_false_of_ne hq0
      have hq2 : (S.toList != b.toList) = true := bne_iff_ne.2 hq0
      clear hv he hq0 HNE
      go_wp2_with (first | refine wpW_load_at 25 _ rfl (g4) (0) (by rfl) (by rfl) _ 70 _ (K9.out.rn.at_ 0 (by omega) (fun i hi => by rw [Nat.zero_add])) Try.underlying25 rfl infoM ?_ | fail)
      refine (WM.out _).mono ?_
      rintro e wz ⟨rfl, hbz⟩
      have KZ := hide (K9.out.below hbz)
      clear hbz
      go_wp2_with (first | refine wpW_build (by rfl) 25 #[] rfl [] (by first | rfl | (simp [Act.eval, Act.put]; done)) _ builtMZ ?_ | refine wpList_storeM rfl _ _ rfl rfl (g2) (Msg.zero) rfl rfl _ KZ.out.rm ?_ | fail)
      (try simp only [Exit.inBlock, Exit.then])
      exact bodyPost_ret (resMT _ g2 _ _ (.int .i64 160) 2 3 (KZ.out.rm.row _ Msg.zero.v rfl) rfl rfl _ rfl) rfl (rdD_bad HY.out rfl (by first | exact below_setRow KZ.out.bel (Nat.le_refl _) _ | (rw [hg2]; exact below_setRow KZ.out.bel (Nat.le_refl _) _)))
set_option maxRecDepth 100000 in
set_option maxHeartbeats 40000000 in
theorem rrM_7 (b : ByteArray) (c : UInt8) (r : List UInt8) (hb : b.data.toList = c :: r) (hz : b.size ≤ 281474976710656) (hc : c = 7) (w : World) : Calls Try.prog 17 #[.string b] w fun e w' => RdD w.heap.size b.data.toList w e w' := by
  have hne0 := fun x => doc_ne c r (by rw [hc]; decide) (by rw [hc]; decide) (by rw [hc]; decide) x
  rw [← hb, show c.toNat = 7 by rw [hc]; rfl] at hne0
  have C0 : Hid (∀ w : World, Calls Try.prog 37 #[.string b, .int .i64 1] w fun e w' => e = .returned (.int .i64 (numD b.data.toList 1)) ∧ w = w') := fun w => rnumM_any b 1 (by omega) hz w
  unfold docM at hne0
  simp only [show ¬(7 = 4) by decide, show ¬(7 = 5) by decide, show ¬(7 = 6) by decide, if_true, if_false, reduceIte] at hne0
  obtain ⟨N0, hN0⟩ : ∃ N, numD b.data.toList 1 = N := ⟨_, rfl⟩
  rw [hN0] at C0
  simp only [hN0] at hne0
  clear hN0
  have HNE := hide hne0
  clear hne0
  have hne : b.toList.isEmpty = false := empty_false (by rw [← Cu.str_len, hb]; simp)
  have hz0 : (0 : Int) < (b.size : Int) := by rw [← Cu.str_len, hb]; simp only [List.length_cons]; omega
  have IX : Hid (∀ w : World, (Instr.index 9 (.string b) (.int .i64 0)).run Try.prog w = .ok (.int .u8 (c.toNat : Int)) w) := fun w => by
    have h := Cu.index_text b 0 (by rw [← Cu.str_len, hb]; simp) w
    rw [hb] at h
    exact h
  obtain ⟨K, hK⟩ : ∃ K : Int, ((c.toNat : Nat) : Int) = K := ⟨_, rfl⟩
  have hk256 := c.toNat_lt
  have KC : Hid (∀ w : World, (convert 5 3 (.int .u8 K)).run Try.prog w = .ok (.int .i64 K) w) := fun w => by
    have h := run_convert_int (P := Try.prog) (w := w) 5 3 .u8 K (by kernel_rfl) (by kernel_rfl)
    rw [show Try.prog.intKind 3 = .i64 by kernel_rfl, show IntKind.i64.wrap K = K by rw [IntKind.wrap_i64]; omega] at h
    exact h
  rw [hK] at IX
  clear hk256
  obtain ⟨w1, wX1, hW1, r1, _, _, _, b1⟩ := newM w Msg.zero
  have R1 := hide r1
  have G1 : Hid (Below w.heap.size w w1) := b1
  clear r1 b1
  obtain ⟨w2, w3, hW2, r2, hW3, r3, b3, b2⟩ := newM w1 ⟨K, 0, 0, 0, 0, z32, z32, nilB⟩
  have RN := hide r2
  have K3 : Hid (NV w w.heap.size w1.heap.size Msg.zero ⟨K, 0, 0, 0, 0, z32, z32, nilB⟩ w3) := ⟨R1.out.below b3 R1.out.lt, r3, G1.out.trans (b3.mono G1.out.size), R1.out.lt⟩
  clear r2 r3 b3 b2 R1 G1
  go_enter Try.func17, Try.ntmps17
  go_upto_region 4 with (first | (refine Cu.wpList_index_lit rfl _ _ _ rfl (.int .u8 K) ?_ ?_; · exact IX.out _) | refine Cu.wpList_conv rfl _ _ _ rfl .u8 .i64 K K (by rfl) (KC.out _) ?_ | refine wpW_build (by rfl) 25 #[(0, .tmp 15)] rfl [(0, .int .i64 K)] (by first | rfl | (simp [Act.eval, Act.put]; done)) _ (builtMK K) ?_ | refine wpList_storeM rfl _ _ rfl rfl (w1.heap.size) (⟨K, 0, 0, 0, 0, z32, z32, nilB⟩) rfl rfl _ RN.out ?_ | fail)
  try rw [hW3]
  generalize hg2 : w.heap.size = g2 at K3 ⊢
  generalize w1.heap.size = g4 at K3 ⊢
  clear hW1 hW2 hW3 RN IX KC hne hz0
  have c0 : w3.cell? ⟨g4, 0, none⟩ = some (.int .i64 K) := K3.out.rn.cell 0 (by omega)
  obtain rfl : K = 7 := by rw [← hK, hc]; rfl
  clear hK hc hb hz
  go_upto_region 24 with fail
  go_wp2_with fail
  refine (C0.out _).mono ?_
  rintro e wv ⟨rfl, rfl⟩
  have cZ : w3.cell? ⟨g4, 3, none⟩ = some (.int .i64 0) := K3.out.rn.cell 3 (by omega)
  have fZ := K3.out.rn.frozen 3
  obtain ⟨w5, hWq⟩ : ∃ z, w3.setCell ⟨g4, 3, none⟩ (.int .i64 N0) = z := ⟨_, rfl⟩
  have K5 : Hid (NV w g2 g4 Msg.zero ⟨7, 0, 0, N0, 0, z32, z32, nilB⟩ w5) := by rw [← hWq]; exact K3.out.set 3 _ (K3.out.rn.setIdx _)
  go_upto_region 25 with fail
  try rw [hWq]
  clear hWq cZ fZ K3 C0
  clear c0
  have WM := hide (rwriteM_any ⟨7, 0, 0, N0, 0, z32, z32, nilB⟩)
  cases hv : validM ⟨7, 0, 0, N0, 0, z32, z32, nilB⟩ with
  | false =>
    have HY : Hid (rdM b.data.toList = badM) := doc_no HNE.out (fun h => by rw [hv] at h; cases h.1)
    rw [show wrE ⟨7, 0, 0, N0, 0, z32, z32, nilB⟩ = 160 by unfold wrE; rw [hv]; rfl] at WM
    clear hv
    go_wp2_with (first | refine wpW_load_at 25 _ rfl (g4) (0) (by rfl) (by rfl) _ 70 _ (K5.out.rn.at_ 0 (by omega) (fun i hi => by rw [Nat.zero_add])) Try.underlying25 rfl infoM ?_ | fail)
    refine (WM.out _).mono ?_
    rintro e wz ⟨rfl, hbz⟩
    have KZ := hide (K5.out.below hbz)
    clear hbz
    go_wp2_with (first | refine wpW_build (by rfl) 25 #[] rfl [] (by first | rfl | (simp [Act.eval, Act.put]; done)) _ builtMZ ?_ | refine wpList_storeM rfl _ _ rfl rfl (g2) (Msg.zero) rfl rfl _ KZ.out.rm ?_ | fail)
    (try simp only [Exit.inBlock, Exit.then])
    exact bodyPost_ret (resMT _ g2 _ _ (.int .i64 160) 2 3 (KZ.out.rm.row _ Msg.zero.v rfl) rfl rfl _ rfl) rfl (rdD_bad HY.out rfl (by first | exact below_setRow KZ.out.bel (Nat.le_refl _) _ | (rw [hg2]; exact below_setRow KZ.out.bel (Nat.le_refl _) _)))
  | true =>
    rw [show wrS ⟨7, 0, 0, N0, 0, z32, z32, nilB⟩ = ofL (bytesM ⟨7, 0, 0, N0, 0, z32, z32, nilB⟩) by unfold wrS; rw [if_pos hv], show wrE ⟨7, 0, 0, N0, 0, z32, z32, nilB⟩ = 0 by unfold wrE; rw [if_pos hv]] at WM
    by_cases he : bytesM ⟨7, 0, 0, N0, 0, z32, z32, nilB⟩ = b.data.toList
    · obtain ⟨x, hx1, hx2⟩ := doc_yes hv he
      have HY : Hid (rdM b.data.toList = (x, 0) ∧ eqM x ⟨7, 0, 0, N0, 0, z32, z32, nilB⟩ = true) := ⟨hx1, hx2⟩
      rw [he, Cu.ofL_of] at WM
      have hq : (b.toList == b.toList) = true := beq_self_eq_true _
      have hq2 : (b.toList != b.toList) = false := by simp
      clear hv he hx1 hx2 HNE
      go_wp2_with (first | refine wpW_load_at 25 _ rfl (g4) (0) (by rfl) (by rfl) _ 70 _ (K5.out.rn.at_ 0 (by omega) (fun i hi => by rw [Nat.zero_add])) Try.underlying25 rfl infoM ?_ | fail)
      refine (WM.out _).mono ?_
      rintro e wz ⟨rfl, hbz⟩
      have KZ := hide (K5.out.below hbz)
      clear hbz
      go_wp2_with (first | refine wpW_load_at 25 _ rfl (g4) (0) (by rfl) (by rfl) _ 70 _ (KZ.out.rn.at_ 0 (by omega) (fun i hi => by rw [Nat.zero_add])) Try.underlying25 rfl infoM ?_ | refine wpList_storeM rfl _ _ rfl rfl (g2) (⟨7, 0, 0, N0, 0, z32, z32, nilB⟩) rfl rfl _ KZ.out.rm ?_ | fail)
      (try simp only [Exit.inBlock, Exit.then])
      exact bodyPost_ret (resMT _ g2 _ _ (.int .i64 0) 2 3 (KZ.out.rm.row _ (Msg.v ⟨7, 0, 0, N0, 0, z32, z32, nilB⟩) rfl) rfl rfl _ rfl) rfl (rdD_ok HY.out.1 HY.out.2 rfl (by first | exact below_setRow KZ.out.bel (Nat.le_refl _) _ | (rw [hg2]; exact below_setRow KZ.out.bel (Nat.le_refl _) _)))
    · have HY : Hid (rdM b.data.toList = badM) := doc_no HNE.out (fun h => he h.2)
      have hq0 : ¬((ofL (bytesM ⟨7, 0, 0, N0, 0, z32, z32, nilB⟩)).toList = b.toList) := fun h => he (by have := noteEq h; rw [← this, Cu.ofL_data])
      generalize ofL (bytesM ⟨7, 0, 0, N0, 0, z32, z32, nilB⟩) = S at WM hq0
      have hq : (S.toList == b.toList) = false := beq_false_of_ne hq0
      have hq2 : (S.toList != b.toList) = true := bne_iff_ne.2 hq0
      clear hv he hq0 HNE
      go_wp2_with (first | refine wpW_load_at 25 _ rfl (g4) (0) (by rfl) (by rfl) _ 70 _ (K5.out.rn.at_ 0 (by omega) (fun i hi => by rw [Nat.zero_add])) Try.underlying25 rfl infoM ?_ | fail)
      refine (WM.out _).mono ?_
      rintro e wz ⟨rfl, hbz⟩
      have KZ := hide (K5.out.below hbz)
      clear hbz
      go_wp2_with (first | refine wpW_build (by rfl) 25 #[] rfl [] (by first | rfl | (simp [Act.eval, Act.put]; done)) _ builtMZ ?_ | refine wpList_storeM rfl _ _ rfl rfl (g2) (Msg.zero) rfl rfl _ KZ.out.rm ?_ | fail)
      (try simp only [Exit.inBlock, Exit.then])
      exact bodyPost_ret (resMT _ g2 _ _ (.int .i64 160) 2 3 (KZ.out.rm.row _ Msg.zero.v rfl) rfl rfl _ rfl) rfl (rdD_bad HY.out rfl (by first | exact below_setRow KZ.out.bel (Nat.le_refl _) _ | (rw [hg2]; exact below_setRow KZ.out.bel (Nat.le_refl _) _)))
set_option maxRecDepth 100000 in
set_option maxHeartbeats 40000000 in
theorem rrM_0 (b : ByteArray) (c : UInt8) (r : List UInt8) (hb : b.data.toList = c :: r) (hz : b.size ≤ 281474976710656) (hc : ¬(1 ≤ c.toNat ∧ c.toNat ≤ 7)) (w : World) : Calls Try.prog 17 #[.string b] w fun e w' => RdD w.heap.size b.data.toList w e w' := by
  have hne0 := fun x => doc_ne c r (fun e => hc (by rw [e]; decide)) (fun e => hc (by rw [e]; decide)) (fun e => hc (by rw [e]; decide)) x
  rw [← hb] at hne0
  have hd : docM b.data.toList c.toNat = ⟨(c.toNat : Int), 0, 0, 0, 0, z32, z32, nilB⟩ := by
    unfold docM
    rw [if_neg (by omega), if_neg (by omega), if_neg (by omega), if_neg (by omega)]
  rw [hd] at hne0
  clear hd
  have hne : b.toList.isEmpty = false := empty_false (by rw [← Cu.str_len, hb]; simp)
  have hz0 : (0 : Int) < (b.size : Int) := by rw [← Cu.str_len, hb]; simp only [List.length_cons]; omega
  have IX : Hid (∀ w : World, (Instr.index 9 (.string b) (.int .i64 0)).run Try.prog w = .ok (.int .u8 (c.toNat : Int)) w) := fun w => by
    have h := Cu.index_text b 0 (by rw [← Cu.str_len, hb]; simp) w
    rw [hb] at h
    exact h
  obtain ⟨K, hK⟩ : ∃ K : Int, ((c.toNat : Nat) : Int) = K := ⟨_, rfl⟩
  have hk256 := c.toNat_lt
  have KC : Hid (∀ w : World, (convert 5 3 (.int .u8 K)).run Try.prog w = .ok (.int .i64 K) w) := fun w => by
    have h := run_convert_int (P := Try.prog) (w := w) 5 3 .u8 K (by kernel_rfl) (by kernel_rfl)
    rw [show Try.prog.intKind 3 = .i64 by kernel_rfl, show IntKind.i64.wrap K = K by rw [IntKind.wrap_i64]; omega] at h
    exact h
  rw [hK] at IX
  clear hk256
  obtain ⟨w1, wX1, hW1, r1, _, _, _, b1⟩ := newM w Msg.zero
  have R1 := hide r1
  have G1 : Hid (Below w.heap.size w w1) := b1
  clear r1 b1
  obtain ⟨w2, w3, hW2, r2, hW3, r3, b3, b2⟩ := newM w1 ⟨K, 0, 0, 0, 0, z32, z32, nilB⟩
  have RN := hide r2
  have K3 : Hid (NV w w.heap.size w1.heap.size Msg.zero ⟨K, 0, 0, 0, 0, z32, z32, nilB⟩ w3) := ⟨R1.out.below b3 R1.out.lt, r3, G1.out.trans (b3.mono G1.out.size), R1.out.lt⟩
  clear r2 r3 b3 b2 R1 G1
  go_enter Try.func17, Try.ntmps17
  go_upto_region 4 with (first | (refine Cu.wpList_index_lit rfl _ _ _ rfl (.int .u8 K) ?_ ?_; · exact IX.out _) | refine Cu.wpList_conv rfl _ _ _ rfl .u8 .i64 K K (by rfl) (KC.out _) ?_ | refine wpW_build (by rfl) 25 #[(0, .tmp 15)] rfl [(0, .int .i64 K)] (by first | rfl | (simp [Act.eval, Act.put]; done)) _ (builtMK K) ?_ | refine wpList_storeM rfl _ _ rfl rfl (w1.heap.size) (⟨K, 0, 0, 0, 0, z32, z32, nilB⟩) rfl rfl _ RN.out ?_ | fail)
  try rw [hW3]
  generalize hg2 : w.heap.size = g2 at K3 ⊢
  generalize w1.heap.size = g4 at K3 ⊢
  clear hW1 hW2 hW3 RN IX KC hne hz0
  have c0 : w3.cell? ⟨g4, 0, none⟩ = some (.int .i64 K) := K3.out.rn.cell 0 (by omega)
  rw [hK] at hne0
  have HNE := hide hne0
  clear hne0
  have hb1 : (K == 1) = false := beq_false_of_ne (by omega)
  have hb2 : (K == 2) = false := beq_false_of_ne (by omega)
  have hb3 : (K == 3) = false := beq_false_of_ne (by omega)
  have hb4 : (K == 4) = false := beq_false_of_ne (by omega)
  have hb5 : (K == 5) = false := beq_false_of_ne (by omega)
  have hb6 : (K == 6) = false := beq_false_of_ne (by omega)
  have hb7 : (K == 7) = false := beq_false_of_ne (by omega)
  clear hK hc hb hz
  go_upto_region 25 with fail
  clear c0
  have WM := hide (rwriteM_any ⟨K, 0, 0, 0, 0, z32, z32, nilB⟩)
  cases hv : validM ⟨K, 0, 0, 0, 0, z32, z32, nilB⟩ with
  | false =>
    have HY : Hid (rdM b.data.toList = badM) := doc_no HNE.out (fun h => by rw [hv] at h; cases h.1)
    rw [show wrE ⟨K, 0, 0, 0, 0, z32, z32, nilB⟩ = 160 by unfold wrE; rw [hv]; rfl] at WM
    clear hv
    go_wp2_with (first | refine wpW_load_at 25 _ rfl (g4) (0) (by rfl) (by rfl) _ 70 _ (K3.out.rn.at_ 0 (by omega) (fun i hi => by rw [Nat.zero_add])) Try.underlying25 rfl infoM ?_ | fail)
    refine (WM.out _).mono ?_
    rintro e wz ⟨rfl, hbz⟩
    have KZ := hide (K3.out.below hbz)
    clear hbz
    go_wp2_with (first | refine wpW_build (by rfl) 25 #[] rfl [] (by first | rfl | (simp [Act.eval, Act.put]; done)) _ builtMZ ?_ | refine wpList_storeM rfl _ _ rfl rfl (g2) (Msg.zero) rfl rfl _ KZ.out.rm ?_ | fail)
    (try simp only [Exit.inBlock, Exit.then])
    exact bodyPost_ret (resMT _ g2 _ _ (.int .i64 160) 2 3 (KZ.out.rm.row _ Msg.zero.v rfl) rfl rfl _ rfl) rfl (rdD_bad HY.out rfl (by first | exact below_setRow KZ.out.bel (Nat.le_refl _) _ | (rw [hg2]; exact below_setRow KZ.out.bel (Nat.le_refl _) _)))
  | true =>
    rw [show wrS ⟨K, 0, 0, 0, 0, z32, z32, nilB⟩ = ofL (bytesM ⟨K, 0, 0, 0, 0, z32, z32, nilB⟩) by unfold wrS; rw [if_pos hv], show wrE ⟨K, 0, 0, 0, 0, z32, z32, nilB⟩ = 0 by unfold wrE; rw [if_pos hv]] at WM
    by_cases he : bytesM ⟨K, 0, 0, 0, 0, z32, z32, nilB⟩ = b.data.toList
    · obtain ⟨x, hx1, hx2⟩ := doc_yes hv he
      have HY : Hid (rdM b.data.toList = (x, 0) ∧ eqM x ⟨K, 0, 0, 0, 0, z32, z32, nilB⟩ = true) := ⟨hx1, hx2⟩
      rw [he, Cu.ofL_of] at WM
      have hq : (b.toList == b.toList) = true := beq_self_eq_true _
      have hq2 : (b.toList != b.toList) = false := by simp
      clear hv he hx1 hx2 HNE
      go_wp2_with (first | refine wpW_load_at 25 _ rfl (g4) (0) (by rfl) (by rfl) _ 70 _ (K3.out.rn.at_ 0 (by omega) (fun i hi => by rw [Nat.zero_add])) Try.underlying25 rfl infoM ?_ | fail)
      refine (WM.out _).mono ?_
      rintro e wz ⟨rfl, hbz⟩
      have KZ := hide (K3.out.below hbz)
      clear hbz
      go_wp2_with (first | refine wpW_load_at 25 _ rfl (g4) (0) (by rfl) (by rfl) _ 70 _ (KZ.out.rn.at_ 0 (by omega) (fun i hi => by rw [Nat.zero_add])) Try.underlying25 rfl infoM ?_ | refine wpList_storeM rfl _ _ rfl rfl (g2) (⟨K, 0, 0, 0, 0, z32, z32, nilB⟩) rfl rfl _ KZ.out.rm ?_ | fail)
      (try simp only [Exit.inBlock, Exit.then])
      exact bodyPost_ret (resMT _ g2 _ _ (.int .i64 0) 2 3 (KZ.out.rm.row _ (Msg.v ⟨K, 0, 0, 0, 0, z32, z32, nilB⟩) rfl) rfl rfl _ rfl) rfl (rdD_ok HY.out.1 HY.out.2 rfl (by first | exact below_setRow KZ.out.bel (Nat.le_refl _) _ | (rw [hg2]; exact below_setRow KZ.out.bel (Nat.le_refl _) _)))
    · have HY : Hid (rdM b.data.toList = badM) := doc_no HNE.out (fun h => he h.2)
      have hq0 : ¬((ofL (bytesM ⟨K, 0, 0, 0, 0, z32, z32, nilB⟩)).toList = b.toList) := fun h => he (by have := noteEq h; rw [← this, Cu.ofL_data])
      generalize ofL (bytesM ⟨K, 0, 0, 0, 0, z32, z32, nilB⟩) = S at WM hq0
      have hq : (S.toList == b.toList) = false := beq_false_of_ne hq0
      have hq2 : (S.toList != b.toList) = true := bne_iff_ne.2 hq0
      clear hv he hq0 HNE
      go_wp2_with (first | refine wpW_load_at 25 _ rfl (g4) (0) (by rfl) (by rfl) _ 70 _ (K3.out.rn.at_ 0 (by omega) (fun i hi => by rw [Nat.zero_add])) Try.underlying25 rfl infoM ?_ | fail)
      refine (WM.out _).mono ?_
      rintro e wz ⟨rfl, hbz⟩
      have KZ := hide (K3.out.below hbz)
      clear hbz
      go_wp2_with (first | refine wpW_build (by rfl) 25 #[] rfl [] (by first | rfl | (simp [Act.eval, Act.put]; done)) _ builtMZ ?_ | refine wpList_storeM rfl _ _ rfl rfl (g2) (Msg.zero) rfl rfl _ KZ.out.rm ?_ | fail)
      (try simp only [Exit.inBlock, Exit.then])
      exact bodyPost_ret (resMT _ g2 _ _ (.int .i64 160) 2 3 (KZ.out.rm.row _ Msg.zero.v rfl) rfl rfl _ rfl) rfl (rdD_bad HY.out rfl (by first | exact below_setRow KZ.out.bel (Nat.le_refl _) _ | (rw [hg2]; exact below_setRow KZ.out.bel (Nat.le_refl _) _)))
theorem rreadM_any (b : ByteArray) (hz : b.size ≤ 281474976710656) (w : World) : Calls Try.prog 17 #[.string b] w fun e w' => RdD w.heap.size b.data.toList w e w' := by
  cases hb : b.data.toList with
  | nil =>
    rw [← hb]
    exact rrM_empty b w (by rw [ByteArray.toList_eq, hb]; rfl)
  | cons c r =>
    rw [← hb]
    by_cases hc : 1 ≤ c.toNat ∧ c.toNat ≤ 7
    · have hk : ∀ k : Nat, k < 256 → c.toNat = k → c = UInt8.ofNat k := fun k h e => by rw [← e, UInt8.ofNat_toNat]
      rcases (show c.toNat = 1 ∨ c.toNat = 2 ∨ c.toNat = 3 ∨ c.toNat = 4 ∨ c.toNat = 5 ∨ c.toNat = 6 ∨ c.toNat = 7 by omega) with h | h | h | h | h | h | h
      · exact rrM_1 b c r hb hz (hk 1 (by omega) h) w
      · exact rrM_2 b c r hb hz (hk 2 (by omega) h) w
      · exact rrM_3 b c r hb hz (hk 3 (by omega) h) w
      · exact rrM_4 b c r hb hz (hk 4 (by omega) h) w
      · exact rrM_5 b c r hb hz (hk 5 (by omega) h) w
      · exact rrM_6 b c r hb hz (hk 6 (by omega) h) w
      · exact rrM_7 b c r hb hz (hk 7 (by omega) h) w
    · exact rrM_0 b c r hb hz hc w
end Go.Proofs.Ytfohdolhobooiaa
