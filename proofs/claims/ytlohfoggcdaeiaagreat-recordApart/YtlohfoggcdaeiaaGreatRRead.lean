/-
  Read over fields (printed by gen_r11.py).
-/
import Derived.Test.YtlohfoggcdaeiaaGreatRFields
import Derived.Deep.DeepCutAuto
import Derived.Deep.Cut
namespace Go.Proofs.YtlohfoggcdaeiaaGreat
open Go.RowKit S
set_option linter.unusedVariables false
set_option linter.unusedSimpArgs false
open Cu (nb be hl ofL CW Mw CR Mr RS takeS takeA hOf nil8 doneS)
def setU (r : Rc) (x : Sl) : Rc := ⟨r.kind, r.upd, x, r.idx, r.co, r.cp, r.sig, r.sec, r.pt, r.code⟩
def lenS (l : List Upd) : Sl := ⟨none, l.length, 0⟩
def FldP (B : Nat) (R : Option (Rc × List Upd)) (e : Ending) (w : World) : Prop := match R with
  | some (r, l) => ∃ x : Sl, e = .returned (.tuple #[.agg (tabv (setU r x).v 138), .bool true]) ∧ OwnU B w x.v l
  | none => ∃ r : Rc, e = .returned (.tuple #[.agg (tabv r.v 138), .bool false])
def rdOf (R : Option (Rc × List Upd)) : Option (Rc × List Upd × Nat) := match R with
  | some (r, l) => if validR (setU r (lenS l)) l = true then some (r, l, (bytesR (setU r (lenS l)) l).length) else none
  | none => none
def RdP (B : Nat) (R : Option (Rc × List Upd × Nat)) (e : Ending) (w : World) : Prop := match R with
  | some (r, l, n) => ∃ x : Sl, e = .returned (.tuple #[.agg (tabv (setU r x).v 138), .int .i64 (n : Int), .int .i64 0]) ∧ OwnU B w x.v l
  | none => e = .returned (.tuple #[.agg (tabv Rc.zero.v 138), .int .i64 0, .int .i64 170])
theorem validR_sl (r : Rc) (x y : Sl) (l : List Upd) (h : x.n = y.n) : validR (setU r x) l = validR (setU r y) l := by
  obtain ⟨xa, xn, xc⟩ := x
  obtain ⟨ya, yn, yc⟩ := y
  obtain rfl : xn = yn := h
  unfold validR strip ownV bareB setU
  dsimp only
  repeat' split
  all_goals rfl
theorem bytesR_sl (r : Rc) (x y : Sl) (l : List Upd) (h : x.n = y.n) : bytesR (setU r x) l = bytesR (setU r y) l := by
  unfold bytesR layR setU
  dsimp only
  rw [h]
theorem bytesR_len {r : Rc} {l : List Upd} (hv : validR r l = true) (hn : l.length = r.upds.n) : (bytesR r l).length ≤ 40000 := by
  have ho := (validR_own hv).2
  unfold bytesR layR
  unfold ownV at ho
  rw [List.length_cons]
  by_cases h1 : r.kind = 1
  · rw [if_pos h1] at ho ⊢; have := writeS_len ho; omega
  rw [if_neg h1] at ho ⊢
  by_cases h2 : r.kind = 2
  · rw [if_pos h2]; simp [Cu.nb_length]
  rw [if_neg h2] at ho ⊢
  by_cases h3 : r.kind = 3
  · rw [if_pos h3] at ho ⊢
    simp only [Bool.and_eq_true, decide_eq_true_eq] at ho
    have := bytesUs_len ho.2.2
    simp only [List.length_append, Cu.nb_length, Cu.hl_length]
    omega
  rw [if_neg h3]
  repeat' split
  all_goals simp [Cu.nb_length, Cu.hl_length]
set_option maxRecDepth 100000 in
set_option maxHeartbeats 40000000 in
theorem read_none (b : ByteArray) (R : Option (Rc × List Upd)) (w : World) (hR : R = none) (hF : ∀ wx : World, Calls Tryz.prog 33 #[.string b] wx fun e w' => FldP wx.heap.size R e w' ∧ Below wx.heap.size wx w') : Calls Tryz.prog 12 #[.string b] w fun e w' => RdP w.heap.size (rdOf R) e w' ∧ Below w.heap.size w w' := by
  obtain ⟨w1, hW1⟩ : ∃ w1, w.alloc (.cells Tryz.zeroCells38 38) = w1 := ⟨_, rfl⟩
  have r1 : Has w1 w.heap.size 38 Rc.zero.v 138 := by rw [← hW1, zeroRc]; exact Has.new w 38 Rc.zero.v 138 _ rfl
  have b1 : Below w.heap.size w w1 := by rw [← hW1]; exact (Below.refl w.heap.size w).alloc (Nat.le_refl _) _
  have HF := hide (hF w1)
  clear hF
  have HX : Hid (rdOf R = none) := by show _ = _; rw [hR]; rfl
  rw [hR] at HF
  clear hR
  go_enter Tryz.func12, Tryz.ntmps12
  go_wp2_with fail
  refine HF.out.mono ?_
  rintro e w2 ⟨⟨r', rfl⟩, hb2⟩
  obtain ⟨w3, w4, hW3, q3, hW4, q4, b4⟩ := newRc w2 r'
  have Q3 := hide q3
  have K1 := r1.below hb2 r1.lt
  have K7 := hide (K1.below b4 K1.lt)
  have g4 : Below w.heap.size w w4 := (b1.trans (hb2.mono b1.size)).trans (b4.mono (Nat.le_trans b1.size hb2.size))
  clear hb2 b1 r1 q3 q4 b4 K1 hW1 HF
  go_upto_region 2 with (first | rw [hW4] | refine wpList_storeRc rfl _ _ rfl rfl (w2.heap.size) (r') rfl rfl _ Q3.out ?_ | fail)
  try rw [hW4]
  clear hW3 hW4 Q3
  go_wp2_with (first | refine wpW_build (by rfl) 38 #[] rfl [] (by first | rfl | (simp [Act.eval, Act.put]; done)) _ builtRZ ?_ | refine wpList_storeRc rfl _ _ rfl rfl (w.heap.size) (Rc.zero) rfl rfl _ K7.out ?_ | fail)
  (try simp only [Exit.inBlock, Exit.then])
  exact bodyPost_ret (resRc3 _ w.heap.size _ _ (.int .i64 0) (.int .i64 170) 2 3 4 (K7.out.row _ Rc.zero.v rfl) rfl rfl rfl _ rfl) rfl ⟨by rw [HX.out]; rfl, below_setRow g4 (Nat.le_refl _) _⟩
set_option maxRecDepth 100000 in
set_option maxHeartbeats 40000000 in
theorem read_bad (b : ByteArray) (R : Option (Rc × List Upd)) (w : World) (r : Rc) (l : List Upd) (hR : R = some (r, l)) (hv : validR (setU r (lenS l)) l = false) (hF : ∀ wx : World, Calls Tryz.prog 33 #[.string b] wx fun e w' => FldP wx.heap.size R e w' ∧ Below wx.heap.size wx w') : Calls Tryz.prog 12 #[.string b] w fun e w' => RdP w.heap.size (rdOf R) e w' ∧ Below w.heap.size w w' := by
  obtain ⟨w1, hW1⟩ : ∃ w1, w.alloc (.cells Tryz.zeroCells38 38) = w1 := ⟨_, rfl⟩
  have r1 : Has w1 w.heap.size 38 Rc.zero.v 138 := by rw [← hW1, zeroRc]; exact Has.new w 38 Rc.zero.v 138 _ rfl
  have b1 : Below w.heap.size w w1 := by rw [← hW1]; exact (Below.refl w.heap.size w).alloc (Nat.le_refl _) _
  have HF := hide (hF w1)
  clear hF
  rw [hR] at HF
  have HX : Hid (rdOf R = none) := by show _ = _; rw [hR]; unfold rdOf; dsimp only; rw [hv]; rfl
  have HV := hide hv
  clear hR hv
  go_enter Tryz.func12, Tryz.ntmps12
  go_wp2_with fail
  refine HF.out.mono ?_
  rintro e w2 ⟨⟨x, rfl, hOw⟩, hb2⟩
  have hxn : x.n = l.length := (OwnU.sl hOw).1.symm
  obtain ⟨w3, w4, hW3, q3, hW4, q4, b4⟩ := newRc w2 (setU r x)
  have Q3 := hide q3
  have Q4 := hide q4
  have K1 := r1.below hb2 r1.lt
  have K7 := hide (K1.below b4 K1.lt)
  have g4 : Below w.heap.size w w4 := (b1.trans (hb2.mono b1.size)).trans (b4.mono (Nat.le_trans b1.size hb2.size))
  have hOw4 : OwnU w1.heap.size w4 x.v l := hOw.below b4 (Nat.le_refl _)
  have WR := hide (fun (wx : World) (hU : Upds wx x.ad l) => rcwrite_any (setU r x) l hxn.symm wx hU)
  have HVX : Hid (validR (setU r x) l = validR (setU r (lenS l)) l) := validR_sl r x (lenS l) l hxn
  have HBX : Hid (bytesR (setU r x) l = bytesR (setU r (lenS l)) l) := bytesR_sl r x (lenS l) l hxn
  have HOW := hide hOw4
  have hs1 := b1.size
  clear hb2 b1 r1 q3 q4 b4 K1 hW1 HF hOw hOw4
  go_upto_region 2 with (first | rw [hW4] | refine wpList_storeRc rfl _ _ rfl rfl (w2.heap.size) (setU r x) rfl rfl _ Q3.out ?_ | fail)
  try rw [hW4]
  generalize hg2 : w2.heap.size = g2 at Q4 ⊢
  clear hW3 hW4 Q3 hg2
  go_wp2_with (first | refine wpW_load_at 38 _ rfl (g2) (0) (by rfl) (by rfl) _ 138 _ (Q4.out.at_ 0 (by omega) (fun i hi => by rw [Nat.zero_add])) Tryz.underlying38 rfl infoRc ?_ | fail)
  refine (WR.out _ (OwnU.sl HOW.out).2.1).mono ?_
  rintro e w5 ⟨rfl, hb5⟩
  rw [show wrS (setU r x) l = nilB by unfold wrS; rw [HVX.out, HV.out]; rfl, show wrE (setU r x) l = 170 by unfold wrE; rw [HVX.out, HV.out]; rfl]
  have K8 := hide (K7.out.below hb5 K7.out.lt)
  have g5 : Below w.heap.size w w5 := g4.trans (hb5.mono g4.size)
  clear WR HVX HBX HOW hb5 Q4 K7 g4
  go_wp2_with (first | refine wpW_build (by rfl) 38 #[] rfl [] (by first | rfl | (simp [Act.eval, Act.put]; done)) _ builtRZ ?_ | refine wpList_storeRc rfl _ _ rfl rfl (w.heap.size) (Rc.zero) rfl rfl _ K8.out ?_ | fail)
  (try simp only [Exit.inBlock, Exit.then])
  exact bodyPost_ret (resRc3 _ w.heap.size _ _ (.int .i64 0) (.int .i64 170) 2 3 4 (K8.out.row _ Rc.zero.v rfl) rfl rfl rfl _ rfl) rfl ⟨by rw [HX.out]; rfl, below_setRow g5 (Nat.le_refl _) _⟩
set_option maxRecDepth 100000 in
set_option maxHeartbeats 40000000 in
theorem read_good (b : ByteArray) (R : Option (Rc × List Upd)) (w : World) (r : Rc) (l : List Upd) (hR : R = some (r, l)) (hv : validR (setU r (lenS l)) l = true) (hF : ∀ wx : World, Calls Tryz.prog 33 #[.string b] wx fun e w' => FldP wx.heap.size R e w' ∧ Below wx.heap.size wx w') : Calls Tryz.prog 12 #[.string b] w fun e w' => RdP w.heap.size (rdOf R) e w' ∧ Below w.heap.size w w' := by
  obtain ⟨w1, hW1⟩ : ∃ w1, w.alloc (.cells Tryz.zeroCells38 38) = w1 := ⟨_, rfl⟩
  have r1 : Has w1 w.heap.size 38 Rc.zero.v 138 := by rw [← hW1, zeroRc]; exact Has.new w 38 Rc.zero.v 138 _ rfl
  have b1 : Below w.heap.size w w1 := by rw [← hW1]; exact (Below.refl w.heap.size w).alloc (Nat.le_refl _) _
  have HF := hide (hF w1)
  have hs1s : w.heap.size + 1 ≤ w1.heap.size := r1.lt
  clear hF
  rw [hR] at HF
  have HX : Hid (rdOf R = some (r, l, (bytesR (setU r (lenS l)) l).length)) := by show _ = _; rw [hR]; unfold rdOf; dsimp only; rw [if_pos hv]
  have HV := hide hv
  have hbl := bytesR_len hv rfl
  rw [HX.out]
  obtain ⟨N, hN⟩ : ∃ N, (bytesR (setU r (lenS l)) l).length = N := ⟨_, rfl⟩
  rw [hN] at hbl ⊢
  have HN := hide hN
  clear hR hv hN HX
  go_enter Tryz.func12, Tryz.ntmps12
  go_wp2_with fail
  refine HF.out.mono ?_
  rintro e w2 ⟨⟨x, rfl, hOw⟩, hb2⟩
  have hxn : x.n = l.length := (OwnU.sl hOw).1.symm
  obtain ⟨w3, w4, hW3, q3, hW4, q4, b4⟩ := newRc w2 (setU r x)
  have Q3 := hide q3
  have Q4 := hide q4
  have K1 := r1.below hb2 r1.lt
  have K7 := hide (K1.below b4 K1.lt)
  have g4 : Below w.heap.size w w4 := (b1.trans (hb2.mono b1.size)).trans (b4.mono (Nat.le_trans b1.size hb2.size))
  have hOw4 : OwnU w1.heap.size w4 x.v l := hOw.below b4 (Nat.le_refl _)
  have WR := hide (fun (wx : World) (hU : Upds wx x.ad l) => rcwrite_any (setU r x) l hxn.symm wx hU)
  have HVX : Hid (validR (setU r x) l = validR (setU r (lenS l)) l) := validR_sl r x (lenS l) l hxn
  have HBX : Hid (bytesR (setU r x) l = bytesR (setU r (lenS l)) l) := bytesR_sl r x (lenS l) l hxn
  have HOW := hide hOw4
  have hs1 := b1.size
  clear hb2 b1 r1 q3 q4 b4 K1 hW1 HF hOw hOw4
  go_upto_region 2 with (first | rw [hW4] | refine wpList_storeRc rfl _ _ rfl rfl (w2.heap.size) (setU r x) rfl rfl _ Q3.out ?_ | fail)
  try rw [hW4]
  generalize hg2 : w2.heap.size = g2 at Q4 ⊢
  clear hW3 hW4 Q3 hg2
  go_wp2_with (first | refine wpW_load_at 38 _ rfl (g2) (0) (by rfl) (by rfl) _ 138 _ (Q4.out.at_ 0 (by omega) (fun i hi => by rw [Nat.zero_add])) Tryz.underlying38 rfl infoRc ?_ | fail)
  refine (WR.out _ (OwnU.sl HOW.out).2.1).mono ?_
  rintro e w5 ⟨rfl, hb5⟩
  rw [show wrS (setU r x) l = ofL (bytesR (setU r (lenS l)) l) by unfold wrS; rw [if_pos (by rw [HVX.out, HV.out]), HBX.out], show wrE (setU r x) l = 0 by unfold wrE; rw [if_pos (by rw [HVX.out, HV.out])]]
  obtain ⟨t, ht⟩ : ∃ t, ofL (bytesR (setU r (lenS l)) l) = t := ⟨_, rfl⟩
  have hts : t.size = N := by rw [← ht, Cu.ofL_size]; exact HN.out
  rw [ht]
  have K8 := hide (K7.out.below hb5 K7.out.lt)
  have Q8 := hide (Q4.out.below hb5 Q4.out.lt)
  have g5 : Below w.heap.size w w5 := g4.trans (hb5.mono g4.size)
  have O5 : Hid (OwnU (w.heap.size + 1) w5 x.v l) := (HOW.out.below hb5 (Nat.le_refl _)).mono (by have := K7.out.lt; have := hs1s; omega)
  clear WR HVX HBX HOW hb5 Q4 K7 g4 HN HV ht
  go_wp2_with (first | refine wpW_load_at 38 _ rfl (g2) (0) (by rfl) (by rfl) _ 138 _ (Q8.out.at_ 0 (by omega) (fun i hi => by rw [Nat.zero_add])) Tryz.underlying38 rfl infoRc ?_ | refine wpList_storeRc rfl _ _ rfl rfl (w.heap.size) (setU r x) rfl rfl _ K8.out ?_ | fail)
  (try simp only [Exit.inBlock, Exit.then])
  exact bodyPost_ret (resRc3 _ w.heap.size _ _ (.int .i64 (N : Int)) (.int .i64 0) 2 3 4 (K8.out.row _ (Rc.v (setU r x)) rfl) rfl (by first | rfl | (rw [← hts]; rfl)) rfl _ rfl) rfl ⟨⟨x, rfl, (O5.out.same fun k hk => setRow_other _ _ _ _ (by have := (O5.out.lt k hk).1; omega)).mono (by omega)⟩, below_setRow g5 (Nat.le_refl _) _⟩
theorem read_gen (b : ByteArray) (R : Option (Rc × List Upd)) (w : World) (hF : ∀ wx : World, Calls Tryz.prog 33 #[.string b] wx fun e w' => FldP wx.heap.size R e w' ∧ Below wx.heap.size wx w') : Calls Tryz.prog 12 #[.string b] w fun e w' => RdP w.heap.size (rdOf R) e w' ∧ Below w.heap.size w w' := by
  cases hR : R with
  | none => rw [← hR]; exact read_none b R w hR hF
  | some rl =>
    obtain ⟨r, l⟩ := rl
    rw [← hR]
    cases hv : validR (setU r (lenS l)) l with
    | false => exact read_bad b R w r l hR hv hF
    | true => exact read_good b R w r l hR hv hF
def fldO (b : ByteArray) : Option (Rc × List Upd) := if (fldA b).2.2 = 0 then some ((fldA b).1, []) else none
theorem fldK_upds (K : Int) (st : RS) : (fldK K st).1.upds = nilS := by
  unfold fldK
  repeat' split
  all_goals rfl
theorem fields_o (b : ByteArray) (w : World) (hk : (Cu.num 1 (b, 0) : Int) ≠ 1 ∧ (Cu.num 1 (b, 0) : Int) ≠ 3) : Calls Tryz.prog 33 #[.string b] w fun e w' => FldP w.heap.size (fldO b) e w' ∧ Below w.heap.size w w' := by
  refine (fields_other b w hk).mono ?_
  rintro e w' ⟨rfl, hb⟩
  refine ⟨?_, hb⟩
  unfold fldO
  by_cases h : (fldA b).2.2 = 0
  · rw [if_pos h]
    refine ⟨nilS, ?_, OwnU.nil _ _⟩
    rw [show setU (fldA b).1 nilS = (fldA b).1 by unfold setU; rw [← fldK_upds (Cu.num 1 (b, 0) : Int) (takeS 1 (b, 0))]; rfl, h]
    rfl
  · rw [if_neg h]
    exact ⟨(fldA b).1, by rw [show ((fldA b).2.2 == 0) = false from beq_false_of_ne h]⟩
end Go.Proofs.YtlohfoggcdaeiaaGreat
