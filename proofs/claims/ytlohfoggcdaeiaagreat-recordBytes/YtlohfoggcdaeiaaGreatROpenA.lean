import Derived.Test.YtlohfoggcdaeiaaGreatRFields
import Derived.Deep.DeepCutAuto
import Derived.Deep.Cut
import Derived.ProofKit
import Derived.OpenShut
import Derived.SizedLaws
import Derived.Deep.Slices
import Derived.Lib.SmallJoins
/-
  Read over fields (printed by gen_r11.py).
-/
namespace Go.Proofs.YtlohfoggcdaeiaaGreat
open Go.RowKit S
set_option linter.unusedVariables false
set_option linter.unusedSimpArgs false
open Cu (nb be hl ofL CW Mw CR Mr RS takeS takeA hOf nil8 doneS)
def setU (r : Rc) (x : Sl) : Rc := ⟨r.kind, r.upd, x, r.idx, r.co, r.cp, r.sig, r.sec, r.pt, r.code⟩
def lenS (l : List Upd) : Sl := ⟨none, l.length, 0⟩
def FldP (B : Nat) (R : Option (Rc × List Upd)) (e : Ending) (w : World) : Prop := match R with
  | some (r, l) => ∃ x : Sl, e = .returned (.tuple #[.agg (tabv (setU r x).v 138), .bool true]) ∧ OwnU B w x.v l
  | none => ∃ r : Rc, e = .returned (.tuple #[.agg (tabv r.v 138), .bool false])
def rdOf (R : Option (Rc × List Upd)) : Option (Rc × List Upd × Nat) := match R with
  | some (r, l) => if validR (setU r (lenS l)) l = true then some (r, l, (bytesR (setU r (lenS l)) l).length) else none
  | none => none
def RdP (B : Nat) (R : Option (Rc × List Upd × Nat)) (e : Ending) (w : World) : Prop := match R with
  | some (r, l, n) => ∃ x : Sl, e = .returned (.tuple #[.agg (tabv (setU r x).v 138), .int .i64 (n : Int), .int .i64 0]) ∧ OwnU B w x.v l
  | none => e = .returned (.tuple #[.agg (tabv Rc.zero.v 138), .int .i64 0, .int .i64 170])
theorem validR_sl (r : Rc) (x y : Sl) (l : List Upd) (h : x.n = y.n) : validR (setU r x) l = validR (setU r y) l := by
  obtain ⟨xa, xn, xc⟩ := x
  obtain ⟨ya, yn, yc⟩ := y
  obtain rfl : xn = yn := h
  unfold validR strip ownV bareB setU
  dsimp only
  repeat' split
  all_goals rfl
theorem bytesR_sl (r : Rc) (x y : Sl) (l : List Upd) (h : x.n = y.n) : bytesR (setU r x) l = bytesR (setU r y) l := by
  unfold bytesR layR setU
  dsimp only
  rw [h]
theorem bytesR_len {r : Rc} {l : List Upd} (hv : validR r l = true) (hn : l.length = r.upds.n) : (bytesR r l).length ≤ 40000 := by
  have ho := (validR_own hv).2
  unfold bytesR layR
  unfold ownV at ho
  rw [List.length_cons]
  by_cases h1 : r.kind = 1
  · rw [if_pos h1] at ho ⊢; have := writeS_len ho; omega
  rw [if_neg h1] at ho ⊢
  by_cases h2 : r.kind = 2
  · rw [if_pos h2]; simp [Cu.nb_length]
  rw [if_neg h2] at ho ⊢
  by_cases h3 : r.kind = 3
  · rw [if_pos h3] at ho ⊢
    simp only [Bool.and_eq_true, decide_eq_true_eq] at ho
    have := bytesUs_len ho.2.2
    simp only [List.length_append, Cu.nb_length, Cu.hl_length]
    omega
  rw [if_neg h3]
  repeat' split
  all_goals simp [Cu.nb_length, Cu.hl_length]
set_option maxRecDepth 100000 in
set_option maxHeartbeats 40000000 in
theorem read_none (b : ByteArray) (R : Option (Rc × List Upd)) (w : World) (hR : R = none) (hF : ∀ wx : World, Calls Tryz.prog 33 #[.string b] wx fun e w' => FldP wx.heap.size R e w' ∧ Below wx.heap.size wx w') : Calls Tryz.prog 12 #[.string b] w fun e w' => RdP w.heap.size (rdOf R) e w' ∧ Below w.heap.size w w' := by
  obtain ⟨w1, hW1⟩ : ∃ w1, w.alloc (.cells Tryz.zeroCells38 38) = w1 := ⟨_, rfl⟩
  have r1 : Has w1 w.heap.size 38 Rc.zero.v 138 := by rw [← hW1, zeroRc]; exact Has.new w 38 Rc.zero.v 138 _ rfl
  have b1 : Below w.heap.size w w1 := by rw [← hW1]; exact (Below.refl w.heap.size w).alloc (Nat.le_refl _) _
  have HF := hide (hF w1)
  clear hF
  have HX : Hid (rdOf R = none) := by show _ = _; rw [hR]; rfl
  rw [hR] at HF
  clear hR
  go_enter Tryz.func12, Tryz.ntmps12
  go_wp2_with fail
  refine HF.out.mono ?_
  rintro e w2 ⟨⟨r', rfl⟩, hb2⟩
  obtain ⟨w3, w4, hW3, q3, hW4, q4, b4⟩ := newRc w2 r'
  have Q3 := hide q3
  have K1 := r1.below hb2 r1.lt
  have K7 := hide (K1.below b4 K1.lt)
  have g4 : Below w.heap.size w w4 := (b1.trans (hb2.mono b1.size)).trans (b4.mono (Nat.le_trans b1.size hb2.size))
  clear hb2 b1 r1 q3 q4 b4 K1 hW1 HF
  go_upto_region 2 with (first | rw [hW4] | refine wpList_storeRc rfl _ _ rfl rfl (w2.heap.size) (r') rfl rfl _ Q3.out ?_ | fail)
  try rw [hW4]
  clear hW3 hW4 Q3
  go_wp2_with (first | refine wpW_build (by rfl) 38 #[] rfl [] (by first | rfl | (simp [Act.eval, Act.put]; done)) _ builtRZ ?_ | refine wpList_storeRc rfl _ _ rfl rfl (w.heap.size) (Rc.zero) rfl rfl _ K7.out ?_ | fail)
  (try simp only [Exit.inBlock, Exit.then])
  exact bodyPost_ret (resRc3 _ w.heap.size _ _ (.int .i64 0) (.int .i64 170) 2 3 4 (K7.out.row _ Rc.zero.v rfl) rfl rfl rfl _ rfl) rfl ⟨by rw [HX.out]; rfl, below_setRow g4 (Nat.le_refl _) _⟩
set_option maxRecDepth 100000 in
set_option maxHeartbeats 40000000 in
theorem read_bad (b : ByteArray) (R : Option (Rc × List Upd)) (w : World) (r : Rc) (l : List Upd) (hR : R = some (r, l)) (hv : validR (setU r (lenS l)) l = false) (hF : ∀ wx : World, Calls Tryz.prog 33 #[.string b] wx fun e w' => FldP wx.heap.size R e w' ∧ Below wx.heap.size wx w') : Calls Tryz.prog 12 #[.string b] w fun e w' => RdP w.heap.size (rdOf R) e w' ∧ Below w.heap.size w w' := by
  obtain ⟨w1, hW1⟩ : ∃ w1, w.alloc (.cells Tryz.zeroCells38 38) = w1 := ⟨_, rfl⟩
  have r1 : Has w1 w.heap.size 38 Rc.zero.v 138 := by rw [← hW1, zeroRc]; exact Has.new w 38 Rc.zero.v 138 _ rfl
  have b1 : Below w.heap.size w w1 := by rw [← hW1]; exact (Below.refl w.heap.size w).alloc (Nat.le_refl _) _
  have HF := hide (hF w1)
  clear hF
  rw [hR] at HF
  have HX : Hid (rdOf R = none) := by show _ = _; rw [hR]; unfold rdOf; dsimp only; rw [hv]; rfl
  have HV := hide hv
  clear hR hv
  go_enter Tryz.func12, Tryz.ntmps12
  go_wp2_with fail
  refine HF.out.mono ?_
  rintro e w2 ⟨⟨x, rfl, hOw⟩, hb2⟩
  have hxn : x.n = l.length := (OwnU.sl hOw).1.symm
  obtain ⟨w3, w4, hW3, q3, hW4, q4, b4⟩ := newRc w2 (setU r x)
  have Q3 := hide q3
  have Q4 := hide q4
  have K1 := r1.below hb2 r1.lt
  have K7 := hide (K1.below b4 K1.lt)
  have g4 : Below w.heap.size w w4 := (b1.trans (hb2.mono b1.size)).trans (b4.mono (Nat.le_trans b1.size hb2.size))
  have hOw4 : OwnU w1.heap.size w4 x.v l := hOw.below b4 (Nat.le_refl _)
  have WR := hide (fun (wx : World) (hU : Upds wx x.ad l) => rcwrite_any (setU r x) l hxn.symm wx hU)
  have HVX : Hid (validR (setU r x) l = validR (setU r (lenS l)) l) := validR_sl r x (lenS l) l hxn
  have HBX : Hid (bytesR (setU r x) l = bytesR (setU r (lenS l)) l) := bytesR_sl r x (lenS l) l hxn
  have HOW := hide hOw4
  have hs1 := b1.size
  clear hb2 b1 r1 q3 q4 b4 K1 hW1 HF hOw hOw4
  go_upto_region 2 with (first | rw [hW4] | refine wpList_storeRc rfl _ _ rfl rfl (w2.heap.size) (setU r x) rfl rfl _ Q3.out ?_ | fail)
  try rw [hW4]
  generalize hg2 : w2.heap.size = g2 at Q4 ⊢
  clear hW3 hW4 Q3 hg2
  go_wp2_with (first | refine wpW_load_at 38 _ rfl (g2) (0) (by rfl) (by rfl) _ 138 _ (Q4.out.at_ 0 (by omega) (fun i hi => by rw [Nat.zero_add])) Tryz.underlying38 rfl infoRc ?_ | fail)
  refine (WR.out _ (OwnU.sl HOW.out).2.1).mono ?_
  rintro e w5 ⟨rfl, hb5⟩
  rw [show wrS (setU r x) l = nilB by unfold wrS; rw [HVX.out, HV.out]; rfl, show wrE (setU r x) l = 170 by unfold wrE; rw [HVX.out, HV.out]; rfl]
  have K8 := hide (K7.out.below hb5 K7.out.lt)
  have g5 : Below w.heap.size w w5 := g4.trans (hb5.mono g4.size)
  clear WR HVX HBX HOW hb5 Q4 K7 g4
  go_wp2_with (first | refine wpW_build (by rfl) 38 #[] rfl [] (by first | rfl | (simp [Act.eval, Act.put]; done)) _ builtRZ ?_ | refine wpList_storeRc rfl _ _ rfl rfl (w.heap.size) (Rc.zero) rfl rfl _ K8.out ?_ | fail)
  (try simp only [Exit.inBlock, Exit.then])
  exact bodyPost_ret (resRc3 _ w.heap.size _ _ (.int .i64 0) (.int .i64 170) 2 3 4 (K8.out.row _ Rc.zero.v rfl) rfl rfl rfl _ rfl) rfl ⟨by rw [HX.out]; rfl, below_setRow g5 (Nat.le_refl _) _⟩
set_option maxRecDepth 100000 in
set_option maxHeartbeats 40000000 in
theorem read_good (b : ByteArray) (R : Option (Rc × List Upd)) (w : World) (r : Rc) (l : List Upd) (hR : R = some (r, l)) (hv : validR (setU r (lenS l)) l = true) (hF : ∀ wx : World, Calls Tryz.prog 33 #[.string b] wx fun e w' => FldP wx.heap.size R e w' ∧ Below wx.heap.size wx w') : Calls Tryz.prog 12 #[.string b] w fun e w' => RdP w.heap.size (rdOf R) e w' ∧ Below w.heap.size w w' := by
  obtain ⟨w1, hW1⟩ : ∃ w1, w.alloc (.cells Tryz.zeroCells38 38) = w1 := ⟨_, rfl⟩
  have r1 : Has w1 w.heap.size 38 Rc.zero.v 138 := by rw [← hW1, zeroRc]; exact Has.new w 38 Rc.zero.v 138 _ rfl
  have b1 : Below w.heap.size w w1 := by rw [← hW1]; exact (Below.refl w.heap.size w).alloc (Nat.le_refl _) _
  have HF := hide (hF w1)
  have hs1s : w.heap.size + 1 ≤ w1.heap.size := r1.lt
  clear hF
  rw [hR] at HF
  have HX : Hid (rdOf R = some (r, l, (bytesR (setU r (lenS l)) l).length)) := by show _ = _; rw [hR]; unfold rdOf; dsimp only; rw [if_pos hv]
  have HV := hide hv
  have hbl := bytesR_len hv rfl
  rw [HX.out]
  obtain ⟨N, hN⟩ : ∃ N, (bytesR (setU r (lenS l)) l).length = N := ⟨_, rfl⟩
  rw [hN] at hbl ⊢
  have HN := hide hN
  clear hR hv hN HX
  go_enter Tryz.func12, Tryz.ntmps12
  go_wp2_with fail
  refine HF.out.mono ?_
  rintro e w2 ⟨⟨x, rfl, hOw⟩, hb2⟩
  have hxn : x.n = l.length := (OwnU.sl hOw).1.symm
  obtain ⟨w3, w4, hW3, q3, hW4, q4, b4⟩ := newRc w2 (setU r x)
  have Q3 := hide q3
  have Q4 := hide q4
  have K1 := r1.below hb2 r1.lt
  have K7 := hide (K1.below b4 K1.lt)
  have g4 : Below w.heap.size w w4 := (b1.trans (hb2.mono b1.size)).trans (b4.mono (Nat.le_trans b1.size hb2.size))
  have hOw4 : OwnU w1.heap.size w4 x.v l := hOw.below b4 (Nat.le_refl _)
  have WR := hide (fun (wx : World) (hU : Upds wx x.ad l) => rcwrite_any (setU r x) l hxn.symm wx hU)
  have HVX : Hid (validR (setU r x) l = validR (setU r (lenS l)) l) := validR_sl r x (lenS l) l hxn
  have HBX : Hid (bytesR (setU r x) l = bytesR (setU r (lenS l)) l) := bytesR_sl r x (lenS l) l hxn
  have HOW := hide hOw4
  have hs1 := b1.size
  clear hb2 b1 r1 q3 q4 b4 K1 hW1 HF hOw hOw4
  go_upto_region 2 with (first | rw [hW4] | refine wpList_storeRc rfl _ _ rfl rfl (w2.heap.size) (setU r x) rfl rfl _ Q3.out ?_ | fail)
  try rw [hW4]
  generalize hg2 : w2.heap.size = g2 at Q4 ⊢
  clear hW3 hW4 Q3 hg2
  go_wp2_with (first | refine wpW_load_at 38 _ rfl (g2) (0) (by rfl) (by rfl) _ 138 _ (Q4.out.at_ 0 (by omega) (fun i hi => by rw [Nat.zero_add])) Tryz.underlying38 rfl infoRc ?_ | fail)
  refine (WR.out _ (OwnU.sl HOW.out).2.1).mono ?_
  rintro e w5 ⟨rfl, hb5⟩
  rw [show wrS (setU r x) l = ofL (bytesR (setU r (lenS l)) l) by unfold wrS; rw [if_pos (by rw [HVX.out, HV.out]), HBX.out], show wrE (setU r x) l = 0 by unfold wrE; rw [if_pos (by rw [HVX.out, HV.out])]]
  obtain ⟨t, ht⟩ : ∃ t, ofL (bytesR (setU r (lenS l)) l) = t := ⟨_, rfl⟩
  have hts : t.size = N := by rw [← ht, Cu.ofL_size]; exact HN.out
  rw [ht]
  have K8 := hide (K7.out.below hb5 K7.out.lt)
  have Q8 := hide (Q4.out.below hb5 Q4.out.lt)
  have g5 : Below w.heap.size w w5 := g4.trans (hb5.mono g4.size)
  have O5 : Hid (OwnU (w.heap.size + 1) w5 x.v l) := (HOW.out.below hb5 (Nat.le_refl _)).mono (by have := K7.out.lt; have := hs1s; omega)
  clear WR HVX HBX HOW hb5 Q4 K7 g4 HN HV ht
  go_wp2_with (first | refine wpW_load_at 38 _ rfl (g2) (0) (by rfl) (by rfl) _ 138 _ (Q8.out.at_ 0 (by omega) (fun i hi => by rw [Nat.zero_add])) Tryz.underlying38 rfl infoRc ?_ | refine wpList_storeRc rfl _ _ rfl rfl (w.heap.size) (setU r x) rfl rfl _ K8.out ?_ | fail)
  (try simp only [Exit.inBlock, Exit.then])
  exact bodyPost_ret (resRc3 _ w.heap.size _ _ (.int .i64 (N : Int)) (.int .i64 0) 2 3 4 (K8.out.row _ (Rc.v (setU r x)) rfl) rfl (by first | rfl | (rw [← hts]; rfl)) rfl _ rfl) rfl ⟨⟨x, rfl, (O5.out.same fun k hk => setRow_other _ _ _ _ (by have := (O5.out.lt k hk).1; omega)).mono (by omega)⟩, below_setRow g5 (Nat.le_refl _) _⟩
theorem read_gen (b : ByteArray) (R : Option (Rc × List Upd)) (w : World) (hF : ∀ wx : World, Calls Tryz.prog 33 #[.string b] wx fun e w' => FldP wx.heap.size R e w' ∧ Below wx.heap.size wx w') : Calls Tryz.prog 12 #[.string b] w fun e w' => RdP w.heap.size (rdOf R) e w' ∧ Below w.heap.size w w' := by
  cases hR : R with
  | none => rw [← hR]; exact read_none b R w hR hF
  | some rl =>
    obtain ⟨r, l⟩ := rl
    rw [← hR]
    cases hv : validR (setU r (lenS l)) l with
    | false => exact read_bad b R w r l hR hv hF
    | true => exact read_good b R w r l hR hv hF
def fldO (b : ByteArray) : Option (Rc × List Upd) := if (fldA b).2.2 = 0 then some ((fldA b).1, []) else none
theorem fldK_upds (K : Int) (st : RS) : (fldK K st).1.upds = nilS := by
  unfold fldK
  repeat' split
  all_goals rfl
theorem fields_o (b : ByteArray) (w : World) (hk : (Cu.num 1 (b, 0) : Int) ≠ 1 ∧ (Cu.num 1 (b, 0) : Int) ≠ 3) : Calls Tryz.prog 33 #[.string b] w fun e w' => FldP w.heap.size (fldO b) e w' ∧ Below w.heap.size w w' := by
  refine (fields_other b w hk).mono ?_
  rintro e w' ⟨rfl, hb⟩
  refine ⟨?_, hb⟩
  unfold fldO
  by_cases h : (fldA b).2.2 = 0
  · rw [if_pos h]
    refine ⟨nilS, ?_, OwnU.nil _ _⟩
    rw [show setU (fldA b).1 nilS = (fldA b).1 by unfold setU; rw [← fldK_upds (Cu.num 1 (b, 0) : Int) (takeS 1 (b, 0))]; rfl, h]
    rfl
  · rw [if_neg h]
    exact ⟨(fldA b).1, by rw [show ((fldA b).2.2 == 0) = false from beq_false_of_ne h]⟩
end Go.Proofs.YtlohfoggcdaeiaaGreat
/-
  head: the chapter's examples in short (printed by gen_r12.py).
-/
namespace Go.Proofs.YtlohfoggcdaeiaaGreat
open Go.RowKit S
set_option linter.unusedVariables false
set_option linter.unusedSimpArgs false
open Cu (nb be hl ofL CW Mw CR Mr RS takeS takeA hOf nil8 doneS)
def uH : Upd := ⟨1, 0, 7, fun _ => 0, nilB⟩
def rW : Rc := ⟨5, Upd.zero, nilS, 0, 0, 0, z32, z32, z32, 258⟩
def sH : St := ⟨0, 0, 0, 0, ⟨none, 0, 0⟩, ⟨none, 0, 0⟩, 0, 0, 0, 0, 0, 0, 0, 0, 0, false, fun _ => 0, fun _ => 0, fun _ => 0, ⟨none, 0, 0⟩, 0, -1⟩
def oursR (u : Upd) : Rc := ⟨1, u, nilS, 0, 0, 0, z32, z32, z32, 0⟩
def sgR (x a b : Int) : Rc := ⟨2, Upd.zero, nilS, x, a, b, z32, z32, z32, 0⟩
def b5 : ByteArray := ⟨#[5, 1, 2, 7]⟩
def b7 : ByteArray := ⟨#[7]⟩
set_option maxRecDepth 100000 in
theorem builtW5 : Tryz.prog.built 38 [(0, .int .i64 5), (8, .int .i64 258)] = some (tabv rW.v 138) := by kernel_rfl
set_option maxRecDepth 100000 in
theorem builtS0 : Tryz.prog.built 31 [(17, .int .i64 (-1))] = some (tabv sH.v 115) := by kernel_rfl
set_option maxRecDepth 100000 in
theorem builtU7 : Tryz.prog.built 36 [(0, .int .i64 1), (2, .int .i64 7)] = some (tabv uH.v 36) := by kernel_rfl
set_option maxRecDepth 100000 in
theorem builtRU (u : Upd) : Tryz.prog.built 38 [(0, .int .i64 1), (1, .agg (tabv u.v 36))] = some (tabv (oursR u).v 138) := by kernel_rfl
theorem builtC1 (a : Int) : Tryz.prog.built 23 [(0, .int .i64 a)] = some (tabv (ctv a 0) 2) := by kernel_rfl
theorem builtC2 (b : Int) : Tryz.prog.built 23 [(1, .int .i64 b)] = some (tabv (ctv 0 b) 2) := by kernel_rfl
set_option maxRecDepth 100000 in
theorem builtR2 (x a b : Int) : Tryz.prog.built 38 [(0, .int .i64 2), (3, .int .i64 x), (4, .agg (tabv (ctv a b) 2))] = some (tabv (sgR x a b).v 138) := by kernel_rfl
theorem hd_w : wrS rW [] = ⟨#[5, 1, 2]⟩ ∧ wrE rW [] = 0 := ⟨by decide +kernel, by decide +kernel⟩
theorem hd_5 : rdOf (fldO b5) = some ((fldA b5).1, [], 3) := by
  unfold fldO
  rw [if_pos (by decide +kernel)]
  unfold rdOf
  dsimp only
  rw [if_pos (by decide +kernel), show (bytesR (setU (fldA b5).1 (lenS [])) []).length = 3 by decide +kernel]
theorem hd_5c : (fldA b5).1.code = 258 := by decide +kernel
theorem hd_7 : rdOf (fldO b7) = none := by
  unfold fldO
  rw [if_pos (by decide +kernel)]
  unfold rdOf
  dsimp only
  rw [if_neg (by decide +kernel)]
theorem hd_a1 [Inhabited S.Tbl] : apOk sH [] [] [] (oursR uH) [] = true := by kernel_rfl
theorem hd_a2 [Inhabited S.Tbl] (x1 x2 x3 : Sl) : apOk (setSl (newS sH [] (oursR uH) []) x1 x2 x3) [uH] [] [] (sgR 1 1 0) [] = true := by kernel_rfl
theorem hd_a3 [Inhabited S.Tbl] (x1 x2 x3 y1 y2 y3 : Sl) : apOk (setSl (newS (setSl (newS sH [] (oursR uH) []) x1 x2 x3) [] (sgR 1 1 0) []) y1 y2 y3) [uH] [] [] (sgR 2 1 0) [] = false := by kernel_rfl
theorem ApP.yes [Inhabited S.Tbl] {B : Nat} {s : St} {lo lp : List Upd} {ls : List Slot} {r : Rc} {lr : List Upd} {e : Ending} {w : World} (h : ApP B s lo lp ls r lr e w) (ok : apOk s lo lp ls r lr = true) : ∃ x1 x2 x3 : Sl, e = .returned (.tuple #[.agg (tabv (setSl (newS s lp r lr) x1 x2 x3).v 115), .int .i64 0]) ∧ OS B w (setSl (newS s lp r lr) x1 x2 x3) (newO lo r) (newP s lp r lr) (newF ls r) := by
  rcases h with h | h
  · exact h.2
  · rw [ok] at h; cases h.1
theorem ApP.no [Inhabited S.Tbl] {B : Nat} {s : St} {lo lp : List Upd} {ls : List Slot} {r : Rc} {lr : List Upd} {e : Ending} {w : World} (h : ApP B s lo lp ls r lr e w) (ok : apOk s lo lp ls r lr = false) : e = .returned (.tuple #[.agg (tabv St.zero.v 115), .int .i64 170]) := by
  rcases h with h | h
  · rw [ok] at h; cases h.1
  · exact h.2
/-- Apply at a state whose lists are in memory. -/
theorem apply_os [Inhabited S.Tbl] {B : Nat} {s : St} {lo lp : List Upd} {ls : List Slot} (r : Rc) (lr : List Upd) (hnr : lr.length = r.upds.n) (w : World) (h : OS B w s lo lp ls) (zo : lo.length * 72 ≤ 140737488355328) (zp : lp.length * 72 ≤ 140737488355328) (zs : ls.length * 48 ≤ 140737488355328) (hR : Upds w r.upds.ad lr) (hG : Glob num w) : Calls Tryz.prog 10 #[.agg (tabv s.v 115), .agg (tabv r.v 138)] w fun e w' => Below w.heap.size w w' ∧ ApP w.heap.size s lo lp ls r lr e w' :=
  apply_any s lo lp ls h.o.sl.1 h.p.sl.1 h.f.sl.1 zo zp zs r lr hnr w h.o.sl.2.1 h.p.sl.2.1 h.f.sl.2.1 hR hG
set_option maxRecDepth 100000 in
set_option maxHeartbeats 40000000 in
theorem head_any [Inhabited S.Tbl] (w : World) (hG : Glob num w) : Calls Tryz.prog 9 #[] w fun e w' => e = .returned (.bool true) ∧ Below w.heap.size w w' := by
  have hG2 := hG.2.2
  have W1 := hide (rcwrite_any rW [] rfl w (Upds.nil _ _))
  rw [hd_w.1, hd_w.2] at W1
  go_enter Tryz.func9, Tryz.ntmps9
  go_wp2_with (first | refine wpW_build (by rfl) 38 #[(0, .const (.int .i64 5)), (8, .const (.int .i64 258))] rfl [(0, .int .i64 5), (8, .int .i64 258)] (by first | rfl | (simp [Act.eval, Act.put]; done)) _ builtW5 ?_ | fail)
  refine W1.out.mono ?_
  rintro e w1 ⟨rfl, b1⟩
  have R5 := hide (read_gen b5 (fldO b5) w1 (fun wx => fields_o b5 wx (by decide +kernel)))
  rw [hd_5] at R5
  clear W1
  go_wp2_with fail
  refine R5.out.mono ?_
  rintro e w2 ⟨⟨x, rfl, _⟩, hb2⟩
  have b2 : Below w.heap.size w w2 := b1.trans (hb2.mono b1.size)
  obtain ⟨w3, w4, hW3, q3, hW4, q4, b4⟩ := newRc w2 (setU (fldA b5).1 x)
  have Q3 := hide q3
  have g4 : Below w.heap.size w w4 := b2.trans (b4.mono b2.size)
  clear b1 hb2 b4 b2 R5
  go_upto_region 3 with (first | rw [hW4] | refine wpList_storeRc rfl _ _ rfl rfl (w2.heap.size) (setU (fldA b5).1 x) rfl rfl _ Q3.out ?_ | fail)
  try rw [hW4]
  generalize hgr : w2.heap.size = gr at q4 ⊢
  clear hW3 hW4 Q3 hgr q3
  have R7 := hide (read_gen b7 (fldO b7) w4 (fun wx => fields_o b7 wx (by decide +kernel)))
  rw [hd_7] at R7
  go_wp2_with fail
  refine R7.out.mono ?_
  rintro e w5 ⟨rfl, hb5⟩
  obtain ⟨w6, w7, hW6, q6, hW7, q7, b7'⟩ := newRc w5 Rc.zero
  have Q6 := hide q6
  have k5 := (q4.below hb5 q4.lt).below b7' (Nat.lt_of_lt_of_le q4.lt hb5.size)
  have g7 : Below w.heap.size w w7 := (g4.trans (hb5.mono g4.size)).trans (b7'.mono (Nat.le_trans g4.size hb5.size))
  have c137 : w7.cell? ⟨gr, 137, none⟩ = some (.int .i64 258) := by rw [k5.cell 137 (by omega)]; exact congrArg some (by show Value.int .i64 (fldA b5).1.code = _; rw [hd_5c])
  clear hb5 b7' k5 q4 q7 g4 R7 q6
  go_upto_region 6 with (first | rw [hW7] | refine wpList_storeRc rfl _ _ rfl rfl (w5.heap.size) (Rc.zero) rfl rfl _ Q6.out ?_ | fail)
  try rw [hW7]
  clear hW6 hW7 Q6 c137
  have G7 := hG.below g7 hG2
  have AP1 := hide (apply_any sH [] [] [] rfl rfl rfl (by simp) (by simp) (by simp) (oursR uH) [] rfl w7 (Upds.nil _ _) (Upds.nil _ _) (.inl rfl) (Upds.nil _ _) G7)
  go_wp2_with (first | refine wpW_build (by rfl) 31 #[(17, .const (.int .i64 (-1)))] rfl [(17, .int .i64 (-1))] (by first | rfl | (simp [Act.eval, Act.put]; done)) _ builtS0 ?_ | refine wpW_build (by rfl) 36 #[(0, .const (.int .i64 1)), (2, .const (.int .i64 7))] rfl [(0, .int .i64 1), (2, .int .i64 7)] (by first | rfl | (simp [Act.eval, Act.put]; done)) _ builtU7 ?_ | refine wpW_build (by rfl) 38 #[(0, .const (.int .i64 1)), (1, .tmp 51)] rfl [(0, .int .i64 1), (1, .agg (tabv uH.v 36))] (by first | rfl | (simp [Act.eval, Act.put]; done)) _ (builtRU uH) ?_ | fail)
  refine AP1.out.mono ?_
  rintro e w8 ⟨hb8, hA⟩
  obtain ⟨x1, x2, x3, rfl, hOS⟩ := hA.yes hd_a1
  have b8 : Below w.heap.size w w8 := g7.trans (hb8.mono g7.size)
  have hx1 : x1.n = 1 := by have := hOS.o.sl.1; exact this.symm
  obtain ⟨s1, hs1⟩ : ∃ s1, setSl (newS sH [] (oursR uH) []) x1 x2 x3 = s1 := ⟨_, rfl⟩
  have hlo : newO [] (oursR uH) = [uH] := rfl
  have hlp : newP sH [] (oursR uH) [] = [] := rfl
  have hls : newF [] (oursR uH) = [] := rfl
  rw [hlo, hlp, hls, hs1] at hOS
  rw [hs1]
  obtain ⟨w9, w10, hW9, q9, hW10, q10, b10⟩ := newSt w8 s1
  have Q9 := hide q9
  have hOS2 := hOS.below b10
  have g10 : Below w.heap.size w w10 := b8.trans (b10.mono b8.size)
  have c4 : w10.cell? ⟨w8.heap.size, 4, none⟩ = some (.slice x1.ad 1 x1.c) := by rw [q10.cell 4 (by omega), ← hs1, ← hx1]; rfl
  have c114 : w10.cell? ⟨w8.heap.size, 114, none⟩ = some (.int .i64 (-1)) := by rw [q10.cell 114 (by omega), ← hs1]; rfl
  clear hb8 hA b8 hOS b10 hlo hlp hls AP1 g7 G7 q9
  go_upto_region 7 with (first | rw [hW10] | refine wpList_storeSt rfl _ _ rfl rfl (w8.heap.size) (s1) rfl rfl _ Q9.out ?_ | fail)
  try rw [hW10]
  generalize hg9 : w8.heap.size = g9 at c4 c114 q10 ⊢
  clear hW9 hW10 Q9 hg9
  go_upto_region 9 with fail
  have Q10 := hide q10
  have G10 := hG.below g10 hG2
  have AP2 := hide (apply_os (s := s1) (sgR 1 1 0) [] rfl w10 hOS2 (by simp) (by simp) (by simp) (Upds.nil _ _) G10)
  clear c4 c114 q10 hOS2
  go_wp2_with (first | refine wpW_load_at 31 _ rfl (g9) (0) (by rfl) (by rfl) _ 115 _ (Q10.out.at_ 0 (by omega) (fun i hi => by rw [Nat.zero_add])) Tryz.underlying31 rfl infoSt ?_ | refine wpW_build (by rfl) 23 #[(0, .const (.int .i64 1))] rfl [(0, .int .i64 1)] (by first | rfl | (simp [Act.eval, Act.put]; done)) _ (builtC1 1) ?_ | refine wpW_build (by rfl) 38 #[(0, .const (.int .i64 2)), (3, .const (.int .i64 1)), (4, .tmp 71)] rfl [(0, .int .i64 2), (3, .int .i64 1), (4, .agg (tabv (ctv 1 0) 2))] (by first | rfl | (simp [Act.eval, Act.put]; done)) _ (builtR2 1 1 0) ?_ | fail)
  refine AP2.out.mono ?_
  rintro e w11 ⟨hb11, hA⟩
  have ok2 : apOk s1 [uH] [] [] (sgR 1 1 0) [] = true := by rw [← hs1]; exact hd_a2 x1 x2 x3
  obtain ⟨y1, y2, y3, rfl, hOS⟩ := hA.yes ok2
  have b11 : Below w.heap.size w w11 := g10.trans (hb11.mono g10.size)
  obtain ⟨s2, hs2⟩ : ∃ s2, setSl (newS s1 [] (sgR 1 1 0) []) y1 y2 y3 = s2 := ⟨_, rfl⟩
  have hlo : newO [uH] (sgR 1 1 0) = [uH] := rfl
  have hlp : newP s1 [] (sgR 1 1 0) [] = [] := rfl
  have hls : newF [] (sgR 1 1 0) = [] := rfl
  rw [hlo, hlp, hls, hs2] at hOS
  rw [hs2]
  obtain ⟨w12, w13, hW12, q12, hW13, q13, b13⟩ := newSt w11 s2
  have Q12 := hide q12
  have hOS2 := hOS.below b13
  have g13 : Below w.heap.size w w13 := b11.trans (b13.mono b11.size)
  clear hb11 hA b11 hOS b13 hlo hlp hls AP2 g10 G10 q12 Q10 ok2
  go_upto_region 10 with (first | rw [hW13] | refine wpList_storeSt rfl _ _ rfl rfl (w11.heap.size) (s2) rfl rfl _ Q12.out ?_ | fail)
  try rw [hW13]
  generalize hg12 : w11.heap.size = g12 at q13 ⊢
  clear hW12 hW13 Q12 hg12
  have Q13 := hide q13
  have G13 := hG.below g13 hG2
  have AP3 := hide (apply_os (s := s2) (sgR 2 1 0) [] rfl w13 hOS2 (by simp) (by simp) (by simp) (Upds.nil _ _) G13)
  clear hOS2
  go_wp2_with (first | refine wpW_load_at 31 _ rfl (g12) (0) (by rfl) (by rfl) _ 115 _ (Q13.out.at_ 0 (by omega) (fun i hi => by rw [Nat.zero_add])) Tryz.underlying31 rfl infoSt ?_ | refine wpW_build (by rfl) 23 #[(0, .const (.int .i64 1))] rfl [(0, .int .i64 1)] (by first | rfl | (simp [Act.eval, Act.put]; done)) _ (builtC1 1) ?_ | refine wpW_build (by rfl) 38 #[(0, .const (.int .i64 2)), (3, .const (.int .i64 2)), (4, .tmp 78)] rfl [(0, .int .i64 2), (3, .int .i64 2), (4, .agg (tabv (ctv 1 0) 2))] (by first | rfl | (simp [Act.eval, Act.put]; done)) _ (builtR2 2 1 0) ?_ | fail)
  refine AP3.out.mono ?_
  rintro e w14 ⟨hb14, hA⟩
  have ok3 : apOk s2 [uH] [] [] (sgR 2 1 0) [] = false := by rw [← hs2, ← hs1]; exact hd_a3 x1 x2 x3 y1 y2 y3
  obtain rfl := hA.no ok3
  have b14 : Below w.heap.size w w14 := g13.trans (hb14.mono g13.size)
  have k14 := q13.below hb14 q13.lt
  have c7 : w14.cell? ⟨g12, 7, none⟩ = some (.int .i64 1) := by rw [k14.cell 7 (by omega), ← hs2]; rfl
  have c15 : w14.cell? ⟨g12, 15, none⟩ = some (.bool true) := by rw [k14.cell 15 (by omega), ← hs2]; rfl
  clear hb14 hA AP3 ok3 hs1 hs2
  go_wp2
  go_ret
  exact ⟨rfl, b14⟩
end Go.Proofs.YtlohfoggcdaeiaaGreat
/-
  Hashes and counts among the arguments, opened.
-/
namespace Go.Proofs.YtlohfoggcdaeiaaGreat
open Go.ChangeShapes Go.WideShapes Go.ChangeAt Go.RowKit Go.Deep S Go.Joins
set_option linter.unusedVariables false
set_option linter.unusedSimpArgs false
theorem cells5 : Tryz.prog.cellsOf 5 = 1 := by kernel_rfl
theorem cells26 : Tryz.prog.cellsOf 25 = 32 := by kernel_rfl
theorem cellsCt : Tryz.prog.cellsOf 23 = 2 := by kernel_rfl
set_option maxRecDepth 100000 in
theorem open_hash {H : Type} {enc : TypeId × Value → H} {W : World} {base : Nat} {v : Value} {d : DataW H} {p : List MemPlace} (hv : Value.okWide Tryz.prog W .any base 25 v) (h : DataW.Trod enc Tryz.prog W 0 (fun _ => true) true 25 v d p) :
    ∃ f : Nat → UInt8, v = .agg (tabv (bv f) 32) ∧ p = [] := by
  simp only [Value.okWide, Tryz.underlying25] at hv
  obtain ⟨cs, rfl, hsz, _⟩ := hv
  rw [cells26] at hsz
  obtain ⟨fuel, hf⟩ := h
  obtain ⟨xs, m, _, hx, _, hlen, hall⟩ := DataW.trod_array Tryz.underlying25 hf
  have key : ∀ i, i < 32 → ∃ c : UInt8, cs[i]? = some (.int .u8 (c.toNat : Int)) ∧ ∃ y, xs[i]? = some y ∧ y.2 = [] := fun i hi => by
    have h1 := hall i hi
    have hxi : xs[i]? = some xs[i] := List.getElem?_eq_getElem (by omega)
    rw [cells5, Nat.mul_one, hxi] at h1
    obtain ⟨z, hz, hy, wz⟩ := DataW.trod_int Tryz.underlying5 h1
    have hr : 0 ≤ z ∧ z ≤ 255 := by simpa [Lit.wf, IntKind.min, IntKind.max, IntKind.signed, IntKind.bits] using wz
    have hc : cs[i]? = some (.int .u8 z) := by
      have := congrArg (fun l => l[0]?) hz
      simpa [List.getElem?_take, List.getElem?_drop, Value.cells] using this
    refine ⟨UInt8.ofNat z.toNat, ?_, _, hxi, by rw [hy]⟩
    rw [hc, UInt8.toNat_ofNat', Nat.mod_eq_of_lt (by omega), Int.toNat_of_nonneg hr.1]
  refine ⟨fun i => match cs[i]? with | some (.int _ z) => UInt8.ofNat z.toNat | _ => 0, ?_, ?_⟩
  · congr 1
    refine tabv_ext _ _ _ hsz fun i hi => ?_
    obtain ⟨c, hc, _⟩ := key i hi
    unfold bv
    simp only [hc, Int.toNat_natCast]
    congr 3
    rw [UInt8.toNat_ofNat', Nat.mod_eq_of_lt (by have := c.toNat_lt; omega)]
  · simp only [Prod.mk.injEq] at hx
    rw [hx.2, List.flatMap_eq_nil_iff]
    intro y hy
    obtain ⟨i, hi, rfl⟩ := List.mem_iff_getElem.1 hy
    obtain ⟨_, _, y, hy, h0⟩ := key i (by omega)
    rw [List.getElem?_eq_getElem hi] at hy
    cases hy
    exact h0
set_option maxRecDepth 100000 in
theorem open_cts {H : Type} {enc : TypeId × Value → H} {W : World} {base : Nat} {v : Value} {d : DataW H} {p : List MemPlace} (hv : Value.okWide Tryz.prog W .any base 23 v) (h : DataW.Trod enc Tryz.prog W 0 (fun _ => true) true 23 v d p) :
    ∃ a b : Int, v = .agg #[.int .i64 a, .int .i64 b] := by
  obtain ⟨v0, v1, y0, y1, m, rfl, _, _, h0, h1⟩ := open_agg2 Tryz.underlying23 (by kernel_rfl) cellsCt hv h
  obtain ⟨z0, hz0, _⟩ := DataW.trod_int Tryz.underlying3 h0
  obtain ⟨z1, hz1, _⟩ := DataW.trod_int Tryz.underlying3 h1
  refine ⟨z0, z1, ?_⟩
  have e0 : v0 = .int .i64 z0 := by simpa using hz0
  have e1 : v1 = .int .i64 z1 := by simpa using hz1
  rw [e0, e1]
end Go.Proofs.YtlohfoggcdaeiaaGreat
