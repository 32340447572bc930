/-
  CommitBack: the walk (printed by gen_c9.py).
-/
import Derived.Test.YthcaokiboimibaaCMade
namespace Go.Proofs.Ythcaokiboimibaa
open Go.RowKit S
set_option linter.unusedVariables false
set_option linter.unusedSimpArgs false
open Cu (nb be hl hOf ofL num nil8 takeS takeA RS CW Mw CR Mr)
theorem xor_one (n : Int) (h0 : 0 ≤ n) (h1 : n ≤ 281474976710655) : 0 ≤ bits .xor .i64 n 1 ∧ bits .xor .i64 n 1 ≤ 281474976710655 ∧ bits .xor .i64 n 1 ≠ n := by
  obtain ⟨k, rfl⟩ : ∃ k : Nat, n = (k : Int) := ⟨n.toNat, by omega⟩
  have hk : k < 2 ^ 48 := by omega
  have e : bits .xor .i64 (k : Int) 1 = IntKind.i64.wrap ((BitVec.ofInt 64 (k : Int) ^^^ BitVec.ofInt 64 ((1 : Nat) : Int)).toNat : Int) := rfl
  have e2 : (BitVec.ofInt 64 (k : Int) ^^^ BitVec.ofInt 64 ((1 : Nat) : Int)).toNat = k ^^^ 1 := by
    rw [BitVec.toNat_xor, BitVec.ofInt_natCast, BitVec.ofInt_natCast, BitVec.toNat_ofNat, BitVec.toNat_ofNat, Nat.mod_eq_of_lt (by omega), Nat.mod_eq_of_lt (by omega)]
  have e3 : k ^^^ 1 < 2 ^ 48 := Nat.xor_lt_two_pow hk (by decide)
  have e4 : k ^^^ 1 ≠ k := fun h => by
    have h2 : k ^^^ (k ^^^ 1) = k ^^^ k := by rw [h]
    rw [← Nat.xor_assoc, Nat.xor_self, Nat.zero_xor] at h2
    omega
  rw [e, e2, IntKind.wrap_i64]
  omega
theorem run_neHF {o : Oper} {a : Act} (w : World) (x y : Operand) (f g : Nat → UInt8) (ho : o.op = .binOp .neq 23 x y 23) (hx : a.eval x = .agg (tabv (bv f) 32)) (hy : a.eval y = .agg (tabv (bv g) 32)) (hq : eqH f g = true) : (execOp a.eval o).run Try.prog w = .ok (.value (.bool false)) w := by
  have h := run_neH w x y (tabv (bv f) 32) (tabv (bv g) 32) true ho hx hy (by rw [eq26]; exact congrArg (fun b => Result.ok b w) hq)
  exact h
theorem run_eqHT {o : Oper} {a : Act} (w : World) (x y : Operand) (f g : Nat → UInt8) (ho : o.op = .binOp .eql 23 x y 23) (hx : a.eval x = .agg (tabv (bv f) 32)) (hy : a.eval y = .agg (tabv (bv g) 32)) (hq : eqH f g = true) : (execOp a.eval o).run Try.prog w = .ok (.value (.bool true)) w :=
  run_eqH w x y (tabv (bv f) 32) (tabv (bv g) 32) true ho hx hy (by rw [eq26]; exact congrArg (fun b => Result.ok b w) hq)
theorem RdOk.size {b : ByteArray} {o n : Int} {h : Nat → UInt8} {x y : Int} {l : List Pen} (k : RdOk b o n h x y l) : b.size = 59 + 49 * l.length := by rw [k.eq, Cu.ofL_size, textB_length]
theorem rdNone {b : ByteArray} {o n : Int} {h : Nat → UInt8} {x y : Int} {l : List Pen} {err : Int} (k : RdC b o n h x y l err) (hb : ∀ j, b.size ≠ 59 + 49 * j) : err = 4 ∧ l = [] := by
  rcases k with ⟨_, h⟩ | ⟨h, _, _, _, _, _, hl, _⟩
  · exact absurd h.size (hb _)
  · exact ⟨h, hl⟩
/-- CommitBack's variables. -/
structure BW (gp ga gc : Nat) (h : Nat → UInt8) (X Y : Int) (ada : Option Addr) (na ca : Nat) (M : List Pen) (X2 Y2 : Int) (adc : Option Addr) (nc cc : Nat) (M2 : List Pen) (B : Nat) (w : World) (wr : World) : Prop where
  hp : Has wr gp 23 (bv h) 32
  ha : Has wr ga 26 (ledv X Y (.slice ada na ca)) 3
  pa : Pens wr ada M
  hc : Has wr gc 26 (ledv X2 Y2 (.slice adc nc cc)) 3
  pc : Pens wr adc M2
  bel : Below B w wr
  sz : B ≤ wr.heap.size
theorem BW.below {gp ga gc : Nat} {h : Nat → UInt8} {X Y : Int} {ada : Option Addr} {na ca : Nat} {M : List Pen} {X2 Y2 : Int} {adc : Option Addr} {nc cc : Nat} {M2 : List Pen} {B : Nat} {w wr w' : World} (k : BW gp ga gc h X Y ada na ca M X2 Y2 adc nc cc M2 B w wr) (hb : Below wr.heap.size wr w') : BW gp ga gc h X Y ada na ca M X2 Y2 adc nc cc M2 B w w' :=
  ⟨k.hp.below hb k.hp.lt, k.ha.below hb k.ha.lt, k.pa.below hb, k.hc.below hb k.hc.lt, k.pc.below hb, k.bel.trans (hb.mono k.sz), Nat.le_trans k.sz hb.size⟩
set_option maxRecDepth 100000 in
set_option maxHeartbeats 16000000 in
theorem back_walk (oo nn : Int) (h : Nat → UInt8) (x1 y1 : Int) (a1 : Option Addr) (n1 c1 : Nat) (l1 : List Pen) (hn1 : l1.length = n1) (hz1 : n1 ≤ 3910000000000) (x2 y2 : Int) (a2 : Option Addr) (n2 c2 : Nat) (l2 : List Pen) (hn2 : l2.length = n2) (hz2 : n2 ≤ 3910000000000) (tl : ByteArray) (w : World) (hS1 : Pens w a1 l1) (hS2 : Pens w a2 l2) : Calls Try.prog 3 #[.int .i64 oo, .int .i64 nn, .agg (tabv (bv h) 32), .agg (tabv (ledv x1 y1 (.slice a1 n1 c1)) 3), .agg (tabv (ledv x2 y2 (.slice a2 n2 c2)) 3), .string tl] w fun e w' => e = .returned (.bool true) ∧ Below w.heap.size w w' := by
  obtain ⟨wa, hWa⟩ : ∃ wX, w.alloc (.cells (tabv (bv h) 32) 23) = wX := ⟨_, rfl⟩
  have ra : Has wa w.heap.size 23 (bv h) 32 := by rw [← hWa]; exact Has.new w 23 (bv h) 32 _ rfl
  have ba : Below w.heap.size w wa := by rw [← hWa]; exact (Below.refl w.heap.size w).alloc (Nat.le_refl _) _
  obtain ⟨wb, hWb⟩ : ∃ wX, wa.alloc (.cells (tabv (ledv x1 y1 (.slice a1 n1 c1)) 3) 26) = wX := ⟨_, rfl⟩
  have rb : Has wb wa.heap.size 26 (ledv x1 y1 (.slice a1 n1 c1)) 3 := by rw [← hWb]; exact Has.new wa 26 (ledv x1 y1 (.slice a1 n1 c1)) 3 _ rfl
  have bb : Below wa.heap.size wa wb := by rw [← hWb]; exact (Below.refl wa.heap.size wa).alloc (Nat.le_refl _) _
  obtain ⟨wc, hWc⟩ : ∃ wX, wb.alloc (.cells (tabv (ledv x2 y2 (.slice a2 n2 c2)) 3) 26) = wX := ⟨_, rfl⟩
  have rc : Has wc wb.heap.size 26 (ledv x2 y2 (.slice a2 n2 c2)) 3 := by rw [← hWc]; exact Has.new wb 26 (ledv x2 y2 (.slice a2 n2 c2)) 3 _ rfl
  have bc : Below wb.heap.size wb wc := by rw [← hWc]; exact (Below.refl wb.heap.size wb).alloc (Nat.le_refl _) _
  have gbb : Below w.heap.size w wb := ba.trans (bb.mono ba.size)
  have gbc : Below w.heap.size w wc := gbb.trans (bc.mono gbb.size)
  have RP := hide ((ra.below bb ra.lt).below bc (Nat.lt_of_lt_of_le ra.lt bb.size))
  have RB := hide (rb.below bc rb.lt)
  have RC := hide rc
  have HP1 := hide (hS1.below gbc)
  have HP2 := hide (hS2.below gbc)
  have HN1 := hide hn1
  have HN2 := hide hn2
  have HZ1 := hide hz1
  have HZ2 := hide hz2
  have hl0 : w.heap.size < wa.heap.size := ra.lt
  have hl1 : wa.heap.size < wb.heap.size := rb.lt
  obtain ⟨O, hO⟩ : ∃ z, bits .and .i64 oo 1 = z := ⟨_, rfl⟩
  obtain ⟨N, hN⟩ : ∃ z, bits .and .i64 nn 281474976710655 = z := ⟨_, rfl⟩
  have hOb : 0 ≤ O ∧ O ≤ 1 := by rw [← hO]; exact and_mask oo 1 (by omega)
  have hNb : 0 ≤ N ∧ N ≤ 281474976710655 := by rw [← hN]; exact and_mask nn 281474976710655 (by omega)
  have HA : Hid (Arg O N) := ⟨hOb.1, hOb.2, hNb.1, hNb.2⟩
  obtain ⟨N2, hN2⟩ : ∃ z, bits .xor .i64 N 1 = z := ⟨_, rfl⟩
  have HX2 : Hid (0 ≤ N2 ∧ N2 ≤ 281474976710655 ∧ N2 ≠ N) := by rw [← hN2]; exact xor_one N hNb.1 hNb.2
  have zO : IntKind.i64.wrap (1 - O) = 1 - O := by rw [IntKind.wrap_i64]; omega
  have HXN := hide hN2
  clear hOb hNb ra ba rb bb rc bc gbb hS1 hS2 hn1 hn2 hz1 hz2 hN2
  go_enter Try.func3, Try.ntmps3
  go_upto_region 1 with fail
  generalize hg0 : w.heap.size = gp at RP hl0 gbc ⊢
  generalize hgb : wa.heap.size = gb at RB hl0 hl1 ⊢
  generalize hgc : wb.heap.size = gc at RC hl1 ⊢
  have HG : Hid (gp < gb ∧ gb < gc) := ⟨hl0, hl1⟩
  clear hWa hWb hWc hgb hgc hl0 hl1
  go_wp2_with (first | refine wpW_load_at 26 _ rfl (gb) (0) (by rfl) (by rfl) _ 3 _ (RB.out.at_ 0 (by omega) (fun i hi => by rw [Nat.zero_add])) Try.underlying26 rfl infoL ?_ | fail)
  clear hO hN
  refine (made_any x1 y1 a1 n1 c1 l1 HN1.out _ HP1.out HZ1.out).mono ?_
  rintro e w2 ⟨X, Y, v2, M, rfl, hO2, hs2, hr2, hm2, hb2⟩
  obtain ⟨ada, ca, hv2, hP2', _, _, _⟩ := hO2.pens
  obtain ⟨na, hna⟩ : ∃ n, M.length = n := ⟨_, rfl⟩
  rw [hna] at hv2
  subst hv2
  have HNA : Hid (M.length = na ∧ na ≤ 86) := ⟨hna, by rw [← hna]; exact hm2⟩
  have HSA := hide hs2
  have HRA := hide hr2
  obtain ⟨w3, w4, hW3, r3, hW4, r4, b4⟩ := newL w2 X Y (.slice ada na ca)
  have R3 := hide r3
  have hb24 : Below wc.heap.size wc w4 := hb2.trans (b4.mono hb2.size)
  have RP4 := hide (RP.out.below hb24 RP.out.lt)
  have RC4 := hide (RC.out.below hb24 RC.out.lt)
  have HP4 := hide (HP2.out.below hb24)
  have PA4 := hide (hP2'.below b4)
  have R4 := hide r4
  have gb4 : Below gp w w4 := gbc.trans (hb24.mono (by have := RP.out.lt; omega))
  clear hO2 hs2 hr2 hm2 hb2 hP2' hna r3 r4 b4 hb24 RP RC RB HP1 HP2 gbc
  go_upto_region 4 with (first | refine wpList_storeL rfl _ _ rfl rfl w2.heap.size X Y (.slice ada na ca) rfl rfl rfl _ R3.out ?_)
  try rw [hW4]
  generalize hga : w2.heap.size = ga at R4 ⊢
  clear hga hW3 hW4 R3
  go_wp2_with (first | refine wpW_load_at 26 _ rfl (gc) (0) (by rfl) (by rfl) _ 3 _ (RC4.out.at_ 0 (by omega) (fun i hi => by rw [Nat.zero_add])) Try.underlying26 rfl infoL ?_ | fail)
  refine (made_any x2 y2 a2 n2 c2 l2 HN2.out _ HP4.out HZ2.out).mono ?_
  rintro e w5 ⟨X2, Y2, v5, M2, rfl, hO5, hs5, hr5, hm5, hb5⟩
  obtain ⟨adc, cc, hv5, hP5, _, _, _⟩ := hO5.pens
  obtain ⟨nc, hnc⟩ : ∃ n, M2.length = n := ⟨_, rfl⟩
  rw [hnc] at hv5
  subst hv5
  have HNC : Hid (M2.length = nc ∧ nc ≤ 86) := ⟨hnc, by rw [← hnc]; exact hm5⟩
  have HSC := hide hs5
  have HRC := hide hr5
  obtain ⟨w6, w7, hW6, r6, hW7, r7, b7⟩ := newL w5 X2 Y2 (.slice adc nc cc)
  have R6 := hide r6
  have hb57 : Below w4.heap.size w4 w7 := hb5.trans (b7.mono hb5.size)
  have K0 : BW gp ga w5.heap.size h X Y ada na ca M X2 Y2 adc nc cc M2 gp w w7 := ⟨RP4.out.below hb57 RP4.out.lt, R4.out.below hb57 R4.out.lt, PA4.out.below hb57, r7, hP5.below b7, gb4.trans (hb57.mono (Nat.le_of_lt RP4.out.lt)), Nat.le_trans (Nat.le_of_lt RP4.out.lt) hb57.size⟩
  clear hO5 hs5 hr5 hm5 hb5 hP5 hnc r6 r7 b7 hb57 RP4 RC4 HP4 PA4 R4 gb4
  go_upto_region 5 with (first | refine wpList_storeL rfl _ _ rfl rfl w5.heap.size X2 Y2 (.slice adc nc cc) rfl rfl rfl _ R6.out ?_)
  try rw [hW7]
  generalize hgC : w5.heap.size = gC at K0 ⊢
  clear hgC hW6 hW7 R6
  have K7 := hide K0
  clear K0
  go_wp2_with (first | refine wpW_load_at 23 _ rfl (gp) (0) (by rfl) (by rfl) _ 32 _ (K7.out.hp.at_ 0 (by omega) (fun i hi => by rw [Nat.zero_add])) Try.underlying23 rfl info26 ?_ | refine wpW_load_at 26 _ rfl (ga) (0) (by rfl) (by rfl) _ 3 _ (K7.out.ha.at_ 0 (by omega) (fun i hi => by rw [Nat.zero_add])) Try.underlying26 rfl infoL ?_ | fail)
  refine (text_any O N h X Y ada na ca M HNA.out.1 (by have := HNA.out.2; omega) _ K7.out.pa).mono ?_
  rintro e w8 ⟨T, cX, rfl, hTA, hbX⟩
  obtain ⟨hTX, hcX⟩ := hTA.good (HA.out) HSA.out
  subst hcX
  have HT : Hid (RdOk T O N h X Y M) := ⟨HA.out, HSA.out, HRA.out, hTX⟩
  have K8 := hide (K7.out.below hbX)
  clear hTA hTX hbX K7
  go_wp2_with fail
  refine (read_any T _).mono ?_
  rintro e w9 ⟨o9, n9, h9, x9, y9, l9, v9, e9, rfl, hO9, hb9, hC9⟩
  obtain ⟨he9, hr9⟩ : e9 = 0 ∧ RdOk T o9 n9 h9 x9 y9 l9 := by
    rcases hC9 with h | h
    · exact h
    · exact absurd HT.out (h.2.2.2.2.2.2.2 _ _ _ _ _ _)
  obtain ⟨q1, q2, q3, q4, q5, q6⟩ := hr9.one HT.out
  subst he9
  replace q1 := q1.symm
  replace q2 := q2.symm
  replace q4 := q4.symm
  replace q5 := q5.symm
  subst q1 q2 q4 q5
  have E3 := hide q3
  have E6 := hide q6
  obtain ⟨ad9, c9, hv9, hS9, _, _, _⟩ := hO9.pens
  obtain ⟨m9, hm9⟩ : ∃ n, l9.length = n := ⟨_, rfl⟩
  rw [hm9] at hv9
  subst hv9
  have HN9 : Hid (l9.length = m9 ∧ m9 ≤ 86) := ⟨hm9, by rw [← hm9, q6.1, HNA.out.1]; exact HNA.out.2⟩
  have K9 := hide (K8.out.below hb9)
  have HK9 : Hid (gp ≤ w9.heap.size) := K9.out.sz
  clear hC9 hr9 q3 q6 hO9 hb9 hm9 K8
  obtain ⟨wE, wF, wG, w10, hWE, hWF, hWG, hWH, qF, qG, qH, qL, bH⟩ := newHL w9 h9 X Y (.slice ad9 m9 c9)
  have QF := hide qF
  have QG := hide qG
  have K10 := hide (K9.out.below bH)
  have HS10 := hide (hS9.below bH)
  have QH10 := hide qH
  have QL10 := hide qL
  have hlg : w9.heap.size < wE.heap.size := by rw [← hWE, size_alloc]; omega
  clear qF qG qH qL bH hS9 K9
  go_upto_region 7 with (first | refine wpList_storeHH rfl _ _ rfl rfl w9.heap.size h9 rfl rfl _ QF.out ?_ | (rw [hWG]; refine wpList_storeL rfl _ _ rfl rfl wE.heap.size X Y (.slice ad9 m9 c9) rfl rfl rfl _ QG.out ?_) | refine wpList_storeL rfl _ _ rfl rfl wE.heap.size X Y (.slice ad9 m9 c9) rfl rfl rfl _ QG.out ?_)
  try rw [hWG]
  try rw [hWH]
  generalize hgh : w9.heap.size = gh at QH10 hlg ⊢
  generalize hgl : wE.heap.size = gl at QL10 hlg ⊢
  have HLG := hide hlg
  have HGH : Hid (gp ≤ gh) := by show gp ≤ gh; rw [← hgh]; exact HK9.out
  clear hWE hWF hWG hWH QF QG hgh hgl hlg HK9
  go_wp2_with (first | refine wpW_load_at 23 _ rfl (gh) (0) (by rfl) (by rfl) _ 32 _ (QH10.out.at_ 0 (by omega) (fun i hi => by rw [Nat.zero_add])) Try.underlying23 rfl info26 ?_ | refine wpW_load_at 23 _ rfl (gp) (0) (by rfl) (by rfl) _ 32 _ (K10.out.hp.at_ 0 (by omega) (fun i hi => by rw [Nat.zero_add])) Try.underlying23 rfl info26 ?_ | refine wpW_run (by rfl) (.bool false) (run_neHF _ (.tmp 84) (.tmp 85) h9 h rfl (by rfl) (by rfl) E3.out) ?_ | refine wpW_load_at 26 _ rfl (gl) (0) (by rfl) (by rfl) _ 3 _ (QL10.out.at_ 0 (by omega) (fun i hi => by rw [Nat.zero_add])) Try.underlying26 rfl infoL ?_ | refine wpW_load_at 26 _ rfl (ga) (0) (by rfl) (by rfl) _ 3 _ (K10.out.ha.at_ 0 (by omega) (fun i hi => by rw [Nat.zero_add])) Try.underlying26 rfl infoL ?_ | fail)
  refine (same_any X Y X Y ad9 ada m9 c9 na ca l9 M HN9.out.1 HNA.out.1 (by have := HN9.out.2; omega) (by have := HNA.out.2; omega) _ HS10.out K10.out.pa).mono ?_
  rintro e w11 ⟨R, rfl, hR, hb11⟩
  obtain rfl : R = true := hR.2 ⟨rfl, rfl, E6.out⟩
  have K11 := hide (K10.out.below hb11)
  have QH11 := hide (QH10.out.below hb11 QH10.out.lt)
  have QL11 := hide (QL10.out.below hb11 QL10.out.lt)
  clear hR hb11 K10 QH10 QL10 HS10
  go_wp2_with fail
  refine (first_any _).mono ?_
  rintro e w12 ⟨rfl, hb12⟩
  have K12 := hide (K11.out.below hb12)
  have QH12 := hide (QH11.out.below hb12 QH11.out.lt)
  have QL12 := hide (QL11.out.below hb12 QL11.out.lt)
  clear hb12 K11 QH11 QL11
  go_wp2_with (first | refine wpW_load_at 23 _ rfl (gp) (0) (by rfl) (by rfl) _ 32 _ (K12.out.hp.at_ 0 (by omega) (fun i hi => by rw [Nat.zero_add])) Try.underlying23 rfl info26 ?_ | refine wpW_load_at 26 _ rfl (gC) (0) (by rfl) (by rfl) _ 3 _ (K12.out.hc.at_ 0 (by omega) (fun i hi => by rw [Nat.zero_add])) Try.underlying26 rfl infoL ?_ | fail)
  refine (text_any O N h X2 Y2 adc nc cc M2 HNC.out.1 (by have := HNC.out.2; omega) _ K12.out.pc).mono ?_
  rintro e w13 ⟨D, cX, rfl, hTA, hbX⟩
  obtain ⟨hTX, hcX⟩ := hTA.good (HA.out) HSC.out
  subst hcX
  have HD : Hid (RdOk D O N h X2 Y2 M2) := ⟨HA.out, HSC.out, HRC.out, hTX⟩
  have K13 := hide (K12.out.below hbX)
  have QH13 := hide (QH12.out.below hbX QH12.out.lt)
  have QL13 := hide (QL12.out.below hbX QL12.out.lt)
  clear QH12 QL12
  clear hTA hTX hbX K12
  have HDB : Hid (D = T ↔ (X = X2 ∧ Y = Y2 ∧ eqL M M2)) := ⟨fun e => by subst e; have := HT.out.one HD.out; exact ⟨this.2.2.2.1, this.2.2.2.2.1, this.2.2.2.2.2⟩, fun ⟨e1, e2, e3⟩ => by rw [HD.out.eq, HT.out.eq, e1, e2, textB_congr (eqH_refl h) e3]⟩
  obtain ⟨DB, hDB⟩ : ∃ d, (D.toList == T.toList) = d := ⟨_, rfl⟩
  have HDB2 : Hid (DB = true ↔ (X = X2 ∧ Y = Y2 ∧ eqL M M2)) := by
    rw [← hDB]
    refine Iff.trans ?_ HDB.out
    rw [beq_iff_eq]
    exact ⟨fun e => Classical.byContradiction fun hh => ba_ne hh e, fun e => by rw [e]⟩
  have hDB' : decide (D.toList = T.toList) = DB := by
    rw [← hDB]
    by_cases e : D.toList = T.toList <;> simp [e]
  go_wp2_with (first | refine wpW_load_at 26 _ rfl (ga) (0) (by rfl) (by rfl) _ 3 _ (K13.out.ha.at_ 0 (by omega) (fun i hi => by rw [Nat.zero_add])) Try.underlying26 rfl infoL ?_ | refine wpW_load_at 26 _ rfl (gC) (0) (by rfl) (by rfl) _ 3 _ (K13.out.hc.at_ 0 (by omega) (fun i hi => by rw [Nat.zero_add])) Try.underlying26 rfl infoL ?_ | fail)
  refine (same_any X Y X2 Y2 ada adc na ca nc cc M M2 HNA.out.1 HNC.out.1 (by have := HNA.out.2; omega) (by have := HNC.out.2; omega) _ K13.out.pa K13.out.pc).mono ?_
  rintro e w14 ⟨R, rfl, hR, hbX⟩
  obtain rfl : R = DB := by
    have := hR.trans HDB2.out.symm
    cases R <;> cases DB <;> simp_all
  have K14 := hide (K13.out.below hbX)
  have QH14 := hide (QH13.out.below hbX QH13.out.lt)
  have QL14 := hide (QL13.out.below hbX QL13.out.lt)
  clear hR hbX K13 QH13 QL13 HDB HDB2
  have HA2 : Hid (Arg (1 - O) N) := by have := HA.out; unfold Arg at this; exact ⟨by omega, by omega, by omega, by omega⟩
  have HA3 : Hid (Arg O N2) := by have := HA.out; unfold Arg at this; have := HX2.out; exact ⟨by omega, by omega, by omega, by omega⟩
  go_wp2_with (first | refine wpW_load_at 23 _ rfl (gp) (0) (by rfl) (by rfl) _ 32 _ (K14.out.hp.at_ 0 (by omega) (fun i hi => by rw [Nat.zero_add])) Try.underlying23 rfl info26 ?_ | refine wpW_load_at 26 _ rfl (ga) (0) (by rfl) (by rfl) _ 3 _ (K14.out.ha.at_ 0 (by omega) (fun i hi => by rw [Nat.zero_add])) Try.underlying26 rfl infoL ?_ | fail)
  refine (text_any (1 - O) N h X Y ada na ca M HNA.out.1 (by have := HNA.out.2; omega) _ K14.out.pa).mono ?_
  rintro e w15 ⟨XT, cX, rfl, hTA, hbX⟩
  obtain ⟨hTX, hcX⟩ := hTA.good (HA2.out) HSA.out
  subst hcX
  have HXT : Hid (RdOk XT (1 - O) N h X Y M) := ⟨HA2.out, HSA.out, HRA.out, hTX⟩
  have K15 := hide (K14.out.below hbX)
  have QH15 := hide (QH14.out.below hbX QH14.out.lt)
  have QL15 := hide (QL14.out.below hbX QL14.out.lt)
  clear QH14 QL14
  clear hTA hTX hbX K14
  have xN := HXN.out
  go_wp2_with (first | refine wpW_load_at 23 _ rfl (gp) (0) (by rfl) (by rfl) _ 32 _ (K15.out.hp.at_ 0 (by omega) (fun i hi => by rw [Nat.zero_add])) Try.underlying23 rfl info26 ?_ | refine wpW_load_at 26 _ rfl (ga) (0) (by rfl) (by rfl) _ 3 _ (K15.out.ha.at_ 0 (by omega) (fun i hi => by rw [Nat.zero_add])) Try.underlying26 rfl infoL ?_ | fail)
  refine (text_any O N2 h X Y ada na ca M HNA.out.1 (by have := HNA.out.2; omega) _ K15.out.pa).mono ?_
  rintro e w16 ⟨YT, cX, rfl, hTA, hbX⟩
  obtain ⟨hTX, hcX⟩ := hTA.good (HA3.out) HSA.out
  subst hcX
  have HYT : Hid (RdOk YT O N2 h X Y M) := ⟨HA3.out, HSA.out, HRA.out, hTX⟩
  have K16 := hide (K15.out.below hbX)
  have QH16 := hide (QH15.out.below hbX QH15.out.lt)
  have QL16 := hide (QL15.out.below hbX QL15.out.lt)
  clear QH15 QL15
  clear hTA hTX hbX K15
  clear xN
  have nx : XT ≠ T := fun e => by subst e; have := (HXT.out.one HT.out).1; omega
  have ny : YT ≠ T := fun e => by subst e; have := (HYT.out.one HT.out).2.1; exact HX2.out.2.2 this
  have x3 : (XT.toList == T.toList) = false := beq_false_of_ne (ba_ne nx)
  have x4 : ¬ XT.toList = T.toList := ba_ne nx
  have y3 : (YT.toList == T.toList) = false := beq_false_of_ne (ba_ne ny)
  have y4 : ¬ YT.toList = T.toList := ba_ne ny
  obtain ⟨tz, htz⟩ : ∃ z, T.size = z := ⟨_, rfl⟩
  have htz2 : tz = 59 + 49 * na := by rw [← htz, HT.out.size, HNA.out.1]
  have sx : XT.size = tz := by rw [HXT.out.size, HNA.out.1, htz2]
  have sy : YT.size = tz := by rw [HYT.out.size, HNA.out.1, htz2]
  have HTZ : Hid (tz = 59 + 49 * na ∧ na ≤ 86) := ⟨htz2, HNA.out.2⟩
  have tzb : (tz : Int) ≤ 5000 := by have := HTZ.out; omega
  have tz0 : (58 : Int) ≤ (tz : Int) := by have := HTZ.out; omega
  clear nx ny htz2
  go_upto_region 16 with fail
  clear x3 x4 y3 y4 sx sy
  have zt : IntKind.i64.wrap ((tz : Int) - 1) = (tz : Int) - 1 := by rw [IntKind.wrap_i64]; omega
  go_wp2_with fail
  generalize hEA : ByteArray.extract T 0 (tz - 1) = EA
  refine (read_any EA _).mono ?_
  rintro e wA ⟨oA, nA, hA, xA, yA, lA, vA, eA, rfl, hOA, hbA, hCA⟩
  obtain ⟨heA, hlA⟩ := rdNone hCA (by rw [← hEA]; exact (fun j e => by rw [ByteArray.size_extract, htz] at e; have := HTZ.out; omega))
  clear hEA
  subst heA hlA
  obtain ⟨adA, cA, hvA, _, _, _, _⟩ := hOA.pens
  rw [List.length_nil] at hvA
  subst hvA
  have KA := hide (K16.out.below hbA)
  have QHA := hide (QH16.out.below hbA QH16.out.lt)
  have QLA := hide (QL16.out.below hbA QL16.out.lt)
  clear hCA hOA hbA K16 QH16 QL16
  obtain ⟨wE, wF, wG, w17, hWE, hWF, hWG, hWH, qF, qG, qH, qL, bH⟩ := newHL wA hA xA yA (.slice adA 0 cA)
  have QF := hide qF
  have QG := hide qG
  have K17 := hide (KA.out.below bH)
  have QH17 := hide (QHA.out.below bH QHA.out.lt)
  have QL17 := hide (QLA.out.below bH QLA.out.lt)
  clear qF qG qH qL bH KA QHA QLA
  go_upto_region 17 with (first | refine wpList_storeHH rfl _ _ rfl rfl wA.heap.size hA rfl rfl _ QF.out ?_ | (rw [hWG]; refine wpList_storeL rfl _ _ rfl rfl wE.heap.size xA yA (.slice adA 0 cA) rfl rfl rfl _ QG.out ?_) | refine wpList_storeL rfl _ _ rfl rfl wE.heap.size xA yA (.slice adA 0 cA) rfl rfl rfl _ QG.out ?_)
  try rw [hWG]
  try rw [hWH]
  generalize wA.heap.size = gxA
  generalize wE.heap.size = gxB
  clear hWE hWF hWG hWH QF QG
  clear zt
  go_wp2_with fail
  generalize hEA : T ++ (⟨#[0]⟩ : ByteArray) = EA
  refine (read_any EA _).mono ?_
  rintro e wA ⟨oA, nA, hA, xA, yA, lA, vA, eA, rfl, hOA, hbA, hCA⟩
  obtain ⟨heA, hlA⟩ := rdNone hCA (by rw [← hEA]; exact (fun j e => by rw [ByteArray.size_append, htz] at e; have h1 : ({ data := #[0] } : ByteArray).size = 1 := rfl; rw [h1] at e; have := HTZ.out; omega))
  clear hEA
  subst heA hlA
  obtain ⟨adA, cA, hvA, _, _, _, _⟩ := hOA.pens
  rw [List.length_nil] at hvA
  subst hvA
  have KA := hide (K17.out.below hbA)
  have QHA := hide (QH17.out.below hbA QH17.out.lt)
  have QLA := hide (QL17.out.below hbA QL17.out.lt)
  clear hCA hOA hbA K17 QH17 QL17
  obtain ⟨wE, wF, wG, w18, hWE, hWF, hWG, hWH, qF, qG, qH, qL, bH⟩ := newHL wA hA xA yA (.slice adA 0 cA)
  have QF := hide qF
  have QG := hide qG
  have K18 := hide (KA.out.below bH)
  have QH18 := hide (QHA.out.below bH QHA.out.lt)
  have QL18 := hide (QLA.out.below bH QLA.out.lt)
  clear qF qG qH qL bH KA QHA QLA
  go_upto_region 18 with (first | refine wpList_storeHH rfl _ _ rfl rfl wA.heap.size hA rfl rfl _ QF.out ?_ | (rw [hWG]; refine wpList_storeL rfl _ _ rfl rfl wE.heap.size xA yA (.slice adA 0 cA) rfl rfl rfl _ QG.out ?_) | refine wpList_storeL rfl _ _ rfl rfl wE.heap.size xA yA (.slice adA 0 cA) rfl rfl rfl _ QG.out ?_)
  try rw [hWG]
  try rw [hWH]
  generalize wA.heap.size = gxA
  generalize wE.heap.size = gxB
  clear hWE hWF hWG hWH QF QG
  go_wp2_with fail
  generalize hEA : T ++ T = EA
  refine (read_any EA _).mono ?_
  rintro e wA ⟨oA, nA, hA, xA, yA, lA, vA, eA, rfl, hOA, hbA, hCA⟩
  obtain ⟨heA, hlA⟩ := rdNone hCA (by rw [← hEA]; exact (fun j e => by rw [ByteArray.size_append, htz] at e; have := HTZ.out; omega))
  clear hEA
  subst heA hlA
  obtain ⟨adA, cA, hvA, _, _, _, _⟩ := hOA.pens
  rw [List.length_nil] at hvA
  subst hvA
  have KA := hide (K18.out.below hbA)
  have QHA := hide (QH18.out.below hbA QH18.out.lt)
  have QLA := hide (QL18.out.below hbA QL18.out.lt)
  clear hCA hOA hbA K18 QH18 QL18
  obtain ⟨wE, wF, wG, w19, hWE, hWF, hWG, hWH, qF, qG, qH, qL, bH⟩ := newHL wA hA xA yA (.slice adA 0 cA)
  have QF := hide qF
  have QG := hide qG
  have K19 := hide (KA.out.below bH)
  have QH19 := hide (QHA.out.below bH QHA.out.lt)
  have QL19 := hide (QLA.out.below bH QLA.out.lt)
  clear qF qG qH qL bH KA QHA QLA
  go_upto_region 19 with (first | refine wpList_storeHH rfl _ _ rfl rfl wA.heap.size hA rfl rfl _ QF.out ?_ | (rw [hWG]; refine wpList_storeL rfl _ _ rfl rfl wE.heap.size xA yA (.slice adA 0 cA) rfl rfl rfl _ QG.out ?_) | refine wpList_storeL rfl _ _ rfl rfl wE.heap.size xA yA (.slice adA 0 cA) rfl rfl rfl _ QG.out ?_)
  try rw [hWG]
  try rw [hWH]
  generalize wA.heap.size = gxA
  generalize wE.heap.size = gxB
  clear hWE hWF hWG hWH QF QG
  go_wp2_with fail
  refine (read_any tl _).mono ?_
  rintro e w20 ⟨oB, nB, hB, xB, yB, lB, vB, eB, rfl, hOB, hbB, hCB⟩
  obtain ⟨adB, cB, hvB, hSB, _, _, _⟩ := hOB.pens
  obtain ⟨mB, hmB⟩ : ∃ n, lB.length = n := ⟨_, rfl⟩
  rw [hmB] at hvB
  subst hvB
  have HMB := hide hmB
  have K20 := hide (K19.out.below hbB)
  have QH20 := hide (QH19.out.below hbB QH19.out.lt)
  have QL20 := hide ((QL19.out.below hbB QL19.out.lt).row_other gh (tabv (bv hB) 32) (by have := HLG.out; omega))
  obtain ⟨w21, hW21⟩ : ∃ z, w20.setRow gh (tabv (bv hB) 32) = z := ⟨_, rfl⟩
  rw [hW21] at QL20
  obtain ⟨w22, hW22⟩ : ∃ z, w21.setRow gl (tabv (ledv xB yB (.slice adB mB cB)) 3) = z := ⟨_, rfl⟩
  have k22 : Keep (fun i => i = gh ∨ i = gl) w20 w22 := by
    rw [← hW22, ← hW21]
    exact (keep_row _ _ _ (.inl rfl)).trans (keep_row _ _ _ (.inr rfl))
  have QH22 := hide (show Has w22 gh 23 (bv hB) 32 by rw [← hW22, ← hW21]; exact (QH20.out.row _ _ rfl).row_other _ _ (by have := HLG.out; omega))
  have QL22 := hide (show Has w22 gl 26 (ledv xB yB (.slice adB mB cB)) 3 by rw [← hW22]; exact QL20.out.row _ _ rfl)
  have hne : Hid (∀ i, (Value.slice adB mB cB).ownBlock = some i → ¬ (i = gh ∨ i = gl)) := fun i hi hh => by
    have h1 := (hOB.lt i hi).1
    have h2 := QH19.out.lt
    have h3 := QL19.out.lt
    omega
  have hO22 : OwnP w19.heap.size w22 (.slice adB mB cB) lB := hOB.keep k22 hne.out
  obtain ⟨adB', cB', hvB', hSB', _, _, _⟩ := hO22.pens
  rw [hmB] at hvB'
  simp only [Value.slice.injEq] at hvB'
  obtain ⟨rfl, _, rfl⟩ := hvB'
  have HSB := hide hSB'
  have GB22 : Hid (Below gp w w22 ∧ gp ≤ w22.heap.size) := by
    rw [← hW22, ← hW21]
    have hgh : gp ≤ gh := HGH.out
    exact ⟨below_setRow (below_setRow K20.out.bel hgh _) (by have := HLG.out; omega) _, by simpa using K20.out.sz⟩
  have HCB := hide hCB
  clear hOB hbB hCB hSB hSB' hmB K19 QH19 QL19 K20 k22 hne hO22
  go_upto_region 22 with (first | refine wpList_storeHH rfl _ _ rfl rfl gh hB rfl rfl _ QH20.out ?_ | (rw [hW21]; refine wpList_storeL rfl _ _ rfl rfl gl xB yB (.slice adB mB cB) rfl rfl rfl _ QL20.out ?_) | refine wpList_storeL rfl _ _ rfl rfl gl xB yB (.slice adB mB cB) rfl rfl rfl _ QL20.out ?_)
  try rw [hW21]
  try rw [hW22]
  clear hW21 hW22 QH20 QL20
  rcases HCB.out with ⟨he, hrB⟩ | ⟨he, e1, e2, e3, e4, e5, e6, _⟩
  · subst he
    have HRB := hide hrB
    have hmb : mB ≤ 966 := by rw [← HMB.out]; exact hrB.snd.len
    clear hrB HCB
    go_wp2_with (first | refine wpW_load_at 23 _ rfl (gh) (0) (by rfl) (by rfl) _ 32 _ (QH22.out.at_ 0 (by omega) (fun i hi => by rw [Nat.zero_add])) Try.underlying23 rfl info26 ?_ | refine wpW_load_at 26 _ rfl (gl) (0) (by rfl) (by rfl) _ 3 _ (QL22.out.at_ 0 (by omega) (fun i hi => by rw [Nat.zero_add])) Try.underlying26 rfl infoL ?_ | fail)
    refine (text_any oB nB hB xB yB adB mB cB lB HMB.out (by omega) _ HSB.out).mono ?_
    rintro e w23 ⟨Z, cZ, rfl, hTA, hbX⟩
    obtain ⟨hTX, hcX⟩ := hTA.good HRB.out.arg HRB.out.snd
    rw [← HRB.out.eq] at hTX
    subst hcX hTX
    have gbF : Below gp w w23 := GB22.out.1.trans (hbX.mono GB22.out.2)
    clear hTA hbX
    go_wp2
    go_ret
    exact ⟨rfl, by first | exact gbF | (rw [hg0]; exact gbF)⟩
  · subst he e1 e2 e3 e4 e5 e6
    have hmb : mB = 0 := HMB.out.symm
    subst hmb
    clear HCB
    go_wp2_with (first | refine wpW_load_at 23 _ rfl (gh) (0) (by rfl) (by rfl) _ 32 _ (QH22.out.at_ 0 (by omega) (fun i hi => by rw [Nat.zero_add])) Try.underlying23 rfl info26 ?_ | refine wpW_build (by rfl) 23 #[] rfl [] (by simp) _ builtH0 ?_ | refine wpW_run (by rfl) (.bool true) (run_eqHT _ (.tmp 227) (.tmp 228) (fun _ => 0) (fun _ => 0) rfl (by rfl) (by rfl) (eqH_refl _)) ?_ | refine wpW_load_at 26 _ rfl (gl) (0) (by rfl) (by rfl) _ 3 _ (QL22.out.at_ 0 (by omega) (fun i hi => by rw [Nat.zero_add])) Try.underlying26 rfl infoL ?_ | refine wpW_build (by rfl) 26 #[] rfl [] (by simp) _ builtL0 ?_ | fail)
    refine (same_any 0 0 0 0 adB none 0 cB 0 0 [] [] rfl rfl (by omega) (by omega) _ (.inl rfl) (.inl rfl)).mono ?_
    rintro e w23 ⟨R, rfl, hR, hbX⟩
    obtain rfl : R = true := hR.2 ⟨rfl, rfl, eqL_nil⟩
    have gbF : Below gp w w23 := GB22.out.1.trans (hbX.mono GB22.out.2)
    clear hR hbX
    go_wp2
    go_ret
    exact ⟨rfl, by first | exact gbF | (rw [hg0]; exact gbF)⟩
end Go.Proofs.Ythcaokiboimibaa
