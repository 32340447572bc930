/-
  fields, Read: of the kinds whose fields stand one behind the other (printed by gen_r10.py).
-/
import Derived.Test.YtlohfoggcdaeiaaGreatRApply
import Derived.Test.YtlohfoggcdaeiaaGreatCurHashRead
import Derived.Deep.DeepCutAuto
import Derived.Deep.Cut
namespace Go.Proofs.YtlohfoggcdaeiaaGreat
open Go.RowKit S
set_option linter.unusedVariables false
set_option linter.unusedSimpArgs false
open Cu (nb be hl ofL CW Mw CR Mr RS takeS takeA hOf nil8 doneS)
/-- fields' variables: its answer at g2, the reader at p, the record at g5. -/
structure FB (w0 : World) (p g5 : Nat) (st : RS) (r : Rc) (w : World) : Prop where
  cr : CR w p st
  res : Has w w0.heap.size 38 Rc.zero.v 138
  var : Has w g5 38 r.v 138
  bel : Below w0.heap.size w0 w
  ord : w0.heap.size < p ∧ p < g5
section
variable {w0 : World} {p g5 : Nat} {st st' : RS} {r r' : Rc} {w w' : World}
theorem FB.call (h : FB w0 p g5 st r w) (hC : CR w' p st') (hM : Mr p w w') : FB w0 p g5 st' r w' :=
  ⟨hC, h.res.mr hM (by have := h.ord; omega), h.var.mr hM (by have := h.ord; omega), h.bel.trans (hM.below (by have := h.ord; omega) h.bel.size), h.ord⟩
theorem FB.set (h : FB w0 p g5 st r w) (hv : Has w' g5 38 r'.v 138) (he : ∀ k, k ≠ g5 → w'.heap[k]? = w.heap[k]?) (hb : Below w0.heap.size w w') : FB w0 p g5 st r' w' := by
  have ho := h.ord
  exact ⟨h.cr.same (he p (by omega)), h.res.same (he _ (by omega)), hv, h.bel.trans hb, ho⟩
theorem FB.cell (h : FB w0 p g5 st r w) (i : Nat) (v : Value) (hv : Has (w.setCell ⟨g5, i, none⟩ v) g5 38 r'.v 138) : FB w0 p g5 st r' (w.setCell ⟨g5, i, none⟩ v) :=
  h.set hv (fun k hk => Below.heap_setCell w ⟨g5, i, none⟩ v k hk) ((Below.refl _ _).setCell (by have := h.ord; show w0.heap.size ≤ g5; omega) _)
theorem FB.row (h : FB w0 p g5 st r w) : FB w0 p g5 st r' (w.setRow g5 (tabv r'.v 138)) :=
  h.set (h.var.row _ r'.v rfl) (fun k hk => setRow_other w g5 k _ hk) (below_setRow (Below.refl _ _) (by have := h.ord; omega) _)
end
set_option maxRecDepth 100000 in
theorem builtRK (x : Int) : Tryz.prog.built 38 [(0, .int .i64 x)] = some (tabv (Rc.v ⟨x, Upd.zero, nilS, 0, 0, 0, z32, z32, z32, 0⟩) 138) := by kernel_rfl
set_option maxRecDepth 100000 in
theorem builtRZ : Tryz.prog.built 38 [] = some (tabv Rc.zero.v 138) := by kernel_rfl
theorem resRcB (w : World) (g : Nat) (f : Nat → Value) (tmps : Array Value) (k : Value) (c t : Nat) (hg : Has w g 38 f 138) (hp : tmps.getD c undef = .pointer (some ⟨g, 0, none⟩)) (hq : tmps.getD t undef = k) (fn : Func) (h : fn.results = #[.cell c 38, .tmp t]) :
    (results fn tmps).run Tryz.prog w = .ok (.tuple #[.agg (tabv f 138), k]) w := by
  have := run_loadVar_row (P := Tryz.prog) w g 38 38 (tabv f 138) (0, 0) _ hg Tryz.underlying38 rfl (by rw [tabv_size]; exact infoRc)
  simp only [Array.getD_eq_getD_getElem?] at hp hq
  simp [results, h, hp, hq, asAddr, this]
theorem resRc3 (w : World) (g : Nat) (f : Nat → Value) (tmps : Array Value) (k k2 : Value) (c t t2 : Nat) (hg : Has w g 38 f 138) (hp : tmps.getD c undef = .pointer (some ⟨g, 0, none⟩)) (hq : tmps.getD t undef = k) (hq2 : tmps.getD t2 undef = k2) (fn : Func) (h : fn.results = #[.cell c 38, .tmp t, .tmp t2]) :
    (results fn tmps).run Tryz.prog w = .ok (.tuple #[.agg (tabv f 138), k, k2]) w := by
  have := run_loadVar_row (P := Tryz.prog) w g 38 38 (tabv f 138) (0, 0) _ hg Tryz.underlying38 rfl (by rw [tabv_size]; exact infoRc)
  simp only [Array.getD_eq_getD_getElem?] at hp hq hq2
  simp [results, h, hp, hq, hq2, asAddr, this]
def rd8 (st : RS) : Int := IntKind.i64.wrap (Cu.num 8 st : Int)
/-- The record and the reader behind its fields, for the kinds other than 1 and 3. -/
def fldK (K : Int) (st : RS) : Rc × RS :=
  if K = 2 then (⟨K, Upd.zero, nilS, rd8 st, (Cu.num 2 (takeS 8 st) : Int), (Cu.num 2 (takeS 2 (takeS 8 st)) : Int), z32, z32, z32, 0⟩, takeS 2 (takeS 2 (takeS 8 st)))
  else if K = 4 then (⟨K, Upd.zero, nilS, rd8 st, 0, 0, z32, hOf (takeA 32 (takeS 8 st)), hOf (takeA 32 (takeS 32 (takeS 8 st))), 0⟩, takeS 32 (takeS 32 (takeS 8 st)))
  else if K = 5 then (⟨K, Upd.zero, nilS, 0, 0, 0, z32, z32, z32, (Cu.num 2 st : Int)⟩, takeS 2 st)
  else if K = 6 then (⟨K, Upd.zero, nilS, rd8 st, 0, 0, z32, z32, z32, 0⟩, takeS 8 st)
  else (⟨K, Upd.zero, nilS, 0, 0, 0, z32, z32, z32, 0⟩, st)
def fldA (b : ByteArray) : Rc × RS := fldK (Cu.num 1 (b, 0) : Int) (takeS 1 (b, 0))
theorem num1_le (st : RS) : Cu.num 1 st < 256 := num1_lt st
theorem num2_le (st : RS) : Cu.num 2 st < 65536 := by
  unfold Cu.num
  have h := Cu.be_lt (takeA 2 st).data.toList
  have hl : (takeA 2 st).data.toList.length ≤ 2 := by
    unfold takeA
    split
    · split
      · simp [nil8]
      · rw [str_len, ByteArray.size_extract]; omega
    · simp [nil8]
  have h2 : 256 ^ (takeA 2 st).data.toList.length ≤ 256 ^ 2 := Nat.pow_le_pow_right (by omega) hl
  omega
theorem conv16i (n : Nat) (h : n < 65536) (w : World) : (convert 115 3 (.int .u16 (n : Int))).run Tryz.prog w = .ok (.int .i64 (n : Int)) w := by
  have h2 := run_convert_int (P := Tryz.prog) (w := w) 115 3 .u16 (n : Int) (by kernel_rfl) (by kernel_rfl)
  rw [show Tryz.prog.intKind 3 = .i64 by kernel_rfl, show IntKind.i64.wrap (n : Int) = (n : Int) by rw [IntKind.wrap_i64]; omega] at h2
  exact h2
theorem conv8i (n : Nat) (h : n < 256) (w : World) : (convert 5 3 (.int .u8 (n : Int))).run Tryz.prog w = .ok (.int .i64 (n : Int)) w := by
  have h2 := run_convert_int (P := Tryz.prog) (w := w) 5 3 .u8 (n : Int) (by kernel_rfl) (by kernel_rfl)
  rw [show Tryz.prog.intKind 3 = .i64 by kernel_rfl, show IntKind.i64.wrap (n : Int) = (n : Int) by rw [IntKind.wrap_i64]; omega] at h2
  exact h2
set_option maxRecDepth 100000 in
set_option maxHeartbeats 40000000 in
theorem fields_other (b : ByteArray) (w : World) (hk : (Cu.num 1 (b, 0) : Int) ≠ 1 ∧ (Cu.num 1 (b, 0) : Int) ≠ 3) : Calls Tryz.prog 33 #[.string b] w fun e w' => e = .returned (.tuple #[.agg (tabv (fldA b).1.v 138), .bool ((fldA b).2.2 == 0)]) ∧ Below w.heap.size w w' := by
  obtain ⟨⟨rr, sf⟩, hfa⟩ : ∃ rf, fldA b = rf := ⟨_, rfl⟩
  rw [hfa]
  have HFA := hide hfa
  clear hfa
  obtain ⟨w1, hW1⟩ : ∃ w1, w.alloc (.cells Tryz.zeroCells38 38) = w1 := ⟨_, rfl⟩
  have r1 : Has w1 w.heap.size 38 Rc.zero.v 138 := by rw [← hW1, zeroRc]; exact Has.new w 38 Rc.zero.v 138 _ rfl
  have b1 : Below w.heap.size w w1 := by rw [← hW1]; exact (Below.refl w.heap.size w).alloc (Nat.le_refl _) _
  go_enter Tryz.func33, Tryz.ntmps33
  go_wp2_with fail
  refine (Cu.rOpen b _).mono ?_
  rintro e w2 ⟨rfl, hC2, hb2, hs2⟩
  obtain ⟨p, hp⟩ : ∃ p, w1.heap.size = p := ⟨_, rfl⟩
  rw [hp] at hC2 ⊢
  have hgp : w.heap.size < p := by rw [← hp]; exact r1.lt
  have q1 := r1.below hb2 r1.lt
  have g2 : Below w.heap.size w w2 := b1.trans (hb2.mono b1.size)
  clear hW1 r1 b1 hb2 hs2 hp
  go_wp2_with fail
  refine (Cu.rU8 p (b, 0) _ hC2).mono ?_
  rintro e w3 ⟨rfl, hC3, hM3⟩
  have q3 := q1.mr hM3 (by omega)
  have g3 : Below w.heap.size w w3 := g2.trans (hM3.below (by omega) g2.size)
  obtain ⟨kn, hkn⟩ : ∃ kn, Cu.num 1 (b, 0) = kn := ⟨_, rfl⟩
  have hkl : kn < 256 := by rw [← hkn]; exact num1_le _
  rw [show be (takeA 1 (b, 0)).data.toList = kn from hkn]
  obtain ⟨st, hst⟩ : ∃ st, takeS 1 (b, 0) = st := ⟨_, rfl⟩
  rw [hst] at hC3
  have HF : Hid (fldK (kn : Int) st = (rr, sf)) := by show _ = _; rw [← HFA.out]; unfold fldA; rw [hkn, hst]
  have KC := hide (conv8i kn hkl)
  obtain ⟨w4, w5, hW4, q4, hW5, q5, b5⟩ := newRc w3 ⟨(kn : Int), Upd.zero, nilS, 0, 0, 0, z32, z32, z32, 0⟩
  have Q4 := hide q4
  have F5 : Hid (FB w p w3.heap.size st ⟨(kn : Int), Upd.zero, nilS, 0, 0, 0, z32, z32, z32, 0⟩ w5) := ⟨hC3.same (b5.block p hC3.lt), q3.below b5 q3.lt, q5, g3.trans (b5.mono g3.size), hgp, hC3.lt⟩
  have hkk : (kn : Int) ≠ 1 ∧ (kn : Int) ≠ 3 := by rw [← hkn]; exact hk
  clear hk hkn hst hC2 hC3 hM3 q1 q3 g2 g3 q4 q5 b5 HFA
  go_upto_region 3 with (first | rw [hW5] | refine Cu.wpList_conv rfl _ _ _ rfl .u8 .i64 (kn : Int) (kn : Int) (by rfl) (KC.out _) ?_ | refine wpW_build (by rfl) 38 #[(0, .tmp 10)] rfl [(0, .int .i64 (kn : Int))] (by first | rfl | (simp [Act.eval, Act.put]; done)) _ (builtRK (kn : Int)) ?_ | refine wpList_storeRc rfl _ _ rfl rfl (w3.heap.size) (⟨(kn : Int), Upd.zero, nilS, 0, 0, 0, z32, z32, z32, 0⟩) rfl rfl _ Q4.out ?_ | fail)
  try rw [hW5]
  generalize hg5 : w3.heap.size = g5 at F5 ⊢
  clear hW4 hW5 hg5 Q4 KC
  obtain ⟨K, hKn⟩ : ∃ K : Int, (kn : Int) = K := ⟨_, rfl⟩
  rw [hKn] at F5 hkk HF ⊢
  have hK0 : 0 ≤ K ∧ K < 256 := by omega
  clear hKn hkl
  have c0 : w5.cell? ⟨g5, 0, none⟩ = some (.int .i64 K) := F5.out.var.cell 0 (by omega)
  by_cases hK2 : K = 2
  · have HR : Hid (fldK K st = (⟨K, Upd.zero, nilS, rd8 st, (Cu.num 2 (takeS 8 st) : Int), (Cu.num 2 (takeS 2 (takeS 8 st)) : Int), z32, z32, z32, 0⟩, takeS 2 (takeS 2 (takeS 8 st)))) := by show _ = _; unfold fldK; rw [if_pos hK2]
    have k1 : (K == 1) = false := beq_false_of_ne (by omega)
    have k2 : (K == 2) = true := beq_iff_eq.2 hK2
    clear hK2 hkk hK0
    go_wp2_with fail
    refine (Cu.rI64 p st _ F5.out.cr (rd8 st) rfl).mono ?_
    rintro e w6 ⟨rfl, hCq, hMq⟩
    have G6 := F5.out.call hCq hMq
    have c38 : w6.cell? ⟨g5, 38, none⟩ = some (.int .i64 0) := G6.var.cell 38 (by omega)
    have f38 := G6.var.frozen 38
    obtain ⟨w7, hW7⟩ : ∃ y, w6.setCell ⟨g5, 38, none⟩ (.int .i64 (rd8 st)) = y := ⟨_, rfl⟩
    have F7 : Hid (FB w p g5 (takeS 8 st) ⟨K, Upd.zero, nilS, rd8 st, 0, 0, z32, z32, z32, 0⟩ w7) := by show FB _ _ _ _ _ _; rw [← hW7]; exact G6.cell 38 _ (G6.var.rIdx _)
    clear hCq hMq F5 G6 c0
    go_upto_region 8 with (first | rw [hW7] | fail)
    try rw [hW7]
    clear c38 f38 hW7
    obtain ⟨nn, hnn⟩ : ∃ nn, Cu.num 2 (takeS 8 st) = nn := ⟨_, rfl⟩
    have hnl : nn < 65536 := by rw [← hnn]; exact num2_le _
    have KC := hide (conv16i nn hnl)
    have HNN := hide hnn
    go_wp2_with fail
    refine (Cu.rU16 p (takeS 8 st) _ F7.out.cr).mono ?_
    rintro e w8 ⟨rfl, hCq, hMq⟩
    rw [show be (takeA 2 (takeS 8 st)).data.toList = nn from hnn]
    have G8 := F7.out.call hCq hMq
    have c38 : w8.cell? ⟨g5, 39, none⟩ = some (.int .i64 0) := G8.var.cell 39 (by omega)
    have f38 := G8.var.frozen 39
    obtain ⟨w9, hW9⟩ : ∃ y, w8.setCell ⟨g5, 39, none⟩ (.int .i64 (nn : Int)) = y := ⟨_, rfl⟩
    have F9 : Hid (FB w p g5 (takeS 2 (takeS 8 st)) ⟨K, Upd.zero, nilS, rd8 st, (Cu.num 2 (takeS 8 st) : Int), 0, z32, z32, z32, 0⟩ w9) := by show FB _ _ _ _ _ _; rw [← hW9, hnn]; exact G8.cell 39 _ (G8.var.rCo _)
    clear hCq hMq F7 G8 hnn HNN hnl
    go_upto_region 9 with (first | rw [hW9] | refine Cu.wpList_conv rfl _ _ _ rfl .u16 .i64 (nn : Int) (nn : Int) (by rfl) (KC.out _) ?_ | fail)
    try rw [hW9]
    clear c38 f38 hW9 KC
    obtain ⟨nn, hnn⟩ : ∃ nn, Cu.num 2 (takeS 2 (takeS 8 st)) = nn := ⟨_, rfl⟩
    have hnl : nn < 65536 := by rw [← hnn]; exact num2_le _
    have KC := hide (conv16i nn hnl)
    have HNN := hide hnn
    go_wp2_with fail
    refine (Cu.rU16 p (takeS 2 (takeS 8 st)) _ F9.out.cr).mono ?_
    rintro e w10 ⟨rfl, hCq, hMq⟩
    rw [show be (takeA 2 (takeS 2 (takeS 8 st))).data.toList = nn from hnn]
    have G10 := F9.out.call hCq hMq
    have c38 : w10.cell? ⟨g5, 40, none⟩ = some (.int .i64 0) := G10.var.cell 40 (by omega)
    have f38 := G10.var.frozen 40
    obtain ⟨w11, hW11⟩ : ∃ y, w10.setCell ⟨g5, 40, none⟩ (.int .i64 (nn : Int)) = y := ⟨_, rfl⟩
    have F11 : Hid (FB w p g5 (takeS 2 (takeS 2 (takeS 8 st))) ⟨K, Upd.zero, nilS, rd8 st, (Cu.num 2 (takeS 8 st) : Int), (Cu.num 2 (takeS 2 (takeS 8 st)) : Int), z32, z32, z32, 0⟩ w11) := by show FB _ _ _ _ _ _; rw [← hW11, hnn]; exact G10.cell 40 _ (G10.var.rCp _)
    clear hCq hMq F9 G10 hnn HNN hnl
    go_upto_region 20 with (first | rw [hW11] | refine Cu.wpList_conv rfl _ _ _ rfl .u16 .i64 (nn : Int) (nn : Int) (by rfl) (KC.out _) ?_ | fail)
    try rw [hW11]
    clear c38 f38 hW11 KC
    have X1 := F11.out
    have e1 : ⟨K, Upd.zero, nilS, rd8 st, (Cu.num 2 (takeS 8 st) : Int), (Cu.num 2 (takeS 2 (takeS 8 st)) : Int), z32, z32, z32, 0⟩ = rr := by have := HR.out; rw [HF.out] at this; exact (congrArg Prod.fst this).symm
    have e2 : takeS 2 (takeS 2 (takeS 8 st)) = sf := by have := HR.out; rw [HF.out] at this; exact (congrArg Prod.snd this).symm
    rw [e1, e2] at X1
    clear e1 e2 HR HF F11
    have ER := hide (fun w => Cu.rErr p sf w)
    refine wp_region_noPanic ?_
    refine wp_region_held_drew (S := fun wx => CR wx p sf ∧ Has wx g5 38 rr.v 138 ∧ (∃ f, Has wx w.heap.size 38 f 138) ∧ Below w.heap.size w wx) (by kernel_rfl) (⟨X1.cr, X1.var, ⟨_, X1.res⟩, X1.bel.drew⟩) (fun hHeld => ?_)
    generalize hwd : World.drew _ = wd at hHeld ⊢
    clear hwd
    refine Cu.takeH 0 (some 63) (.agg (tabv rr.v 138)) rfl rfl (by kernel_rfl) (by kernel_rfl) (by kernel_rfl) (fun _ _ _ h => h) (by rfl) (fun w_ hw => run_load_at w_ 38 _ rfl g5 0 (by rfl) _ 138 _ (hw.2.1.at_ 0 (by omega) (fun i hi => by rw [Nat.zero_add])) Tryz.underlying38 rfl infoRc) hHeld ?_
    simp only [Act.put, List.setIfInBounds_toArray, List.set_cons_zero, List.set_cons_succ]
    refine Cu.takeH 1 (some 64) (.pointer (some ⟨p, 0, none⟩)) rfl rfl (by kernel_rfl) (by kernel_rfl) (by kernel_rfl) (fun _ _ _ h => h) (by rfl) (fun w_ hw => by first | rfl | (go_simp; done) | (go_simp; rfl) | (go_simp; omega)) hHeld ?_
    simp only [Act.put, List.setIfInBounds_toArray, List.set_cons_zero, List.set_cons_succ]
    refine wpAnyH_ready (rs := [2]) (by kernel_rfl) (by simp) (AllReadyH.cons rfl (fun K hK => ?_) AllReadyH.nil)
    rw [if_pos (by rfl)]
    go_simp
    refine (ER.out _ hHeld.1).mono ?_
    rintro e wv ⟨rfl, hx⟩
    obtain rfl := hx.symm
    try go_wp2_with fail
    refine hK.out _ _ hHeld (fun hH => ?_)
    clear hK K hHeld
    have hHeld := hH
    clear hH
    refine Cu.takeH 3 (some 66) (.bool (sf.2 == 0)) rfl rfl (by kernel_rfl) (by kernel_rfl) (by kernel_rfl) (fun _ _ _ h => h) (by rfl) (fun w_ hw => by first | rfl | (go_simp; done) | (go_simp; rfl) | (go_simp; omega)) hHeld ?_
    simp only [Act.put, List.setIfInBounds_toArray, List.set_cons_zero, List.set_cons_succ]
    refine wpAnyH_ready (rs := [4]) (by kernel_rfl) (by simp) (AllReadyH.cons rfl (fun K' hK' => ?_) AllReadyH.nil)
    rw [if_pos (by rfl)]
    obtain ⟨f0, hf0⟩ := hHeld.2.2.1
    refine wp_store_part 38 _ _ rfl rfl w.heap.size 0 rr.v 138 rfl rfl 38 f0 138 hf0 (by omega) infoRc (fun i _ => oneRc rr i) rr.v (fun i hi => by unfold splice; rw [if_pos (by omega), Nat.sub_zero]) ?_
    have hres := hf0.row _ rr.v rfl
    refine hK'.out _ _ ⟨hHeld.1.same (setRow_other _ _ _ _ (by have := X1.ord; omega)), hHeld.2.1.row_other _ _ (by have := X1.ord; omega), ⟨_, hres⟩, below_setRow hHeld.2.2.2 (Nat.le_refl _) _⟩ (fun hH => ?_)
    clear hK' K' hHeld hf0
    have hHeld := hH
    clear hH
    generalize hwe : World.setRow _ _ _ = we at hHeld hres ⊢
    clear hwe
    refine Cu.takeH 5 (some 3) (.bool (sf.2 == 0)) rfl rfl (by kernel_rfl) (by kernel_rfl) (by kernel_rfl) (fun _ _ _ h => h) (by rfl) (fun w_ hw => by first | rfl | (go_simp; done) | (go_simp; rfl) | (go_simp; omega)) hHeld ?_
    simp only [Act.put, List.setIfInBounds_toArray, List.set_cons_zero, List.set_cons_succ]
    refine ⟨by kernel_rfl, ?_⟩
    refine NoPanic.normal ?_
    have gB := hHeld.2.2.2
    clear hHeld ER X1
    try go_wp2
    (try simp only [Exit.inBlock, Exit.then])
    exact bodyPost_ret (resRcB _ w.heap.size _ _ (.bool (sf.2 == 0)) 2 3 hres rfl rfl _ rfl) rfl ⟨rfl, gB⟩
  by_cases hK4 : K = 4
  · have HR : Hid (fldK K st = (⟨K, Upd.zero, nilS, rd8 st, 0, 0, z32, hOf (takeA 32 (takeS 8 st)), hOf (takeA 32 (takeS 32 (takeS 8 st))), 0⟩, takeS 32 (takeS 32 (takeS 8 st)))) := by show _ = _; unfold fldK; rw [if_neg hK2, if_pos hK4]
    have k1 : (K == 1) = false := beq_false_of_ne (by omega)
    have k2 : (K == 2) = false := beq_false_of_ne (by omega)
    have k3 : (K == 3) = false := beq_false_of_ne (by omega)
    have k4 : (K == 4) = true := beq_iff_eq.2 hK4
    clear hK2 hK4 hkk hK0
    go_wp2_with fail
    refine (Cu.rI64 p st _ F5.out.cr (rd8 st) rfl).mono ?_
    rintro e w6 ⟨rfl, hCq, hMq⟩
    have G6 := F5.out.call hCq hMq
    have c38 : w6.cell? ⟨g5, 38, none⟩ = some (.int .i64 0) := G6.var.cell 38 (by omega)
    have f38 := G6.var.frozen 38
    obtain ⟨w7, hW7⟩ : ∃ y, w6.setCell ⟨g5, 38, none⟩ (.int .i64 (rd8 st)) = y := ⟨_, rfl⟩
    have F7 : Hid (FB w p g5 (takeS 8 st) ⟨K, Upd.zero, nilS, rd8 st, 0, 0, z32, z32, z32, 0⟩ w7) := by show FB _ _ _ _ _ _; rw [← hW7]; exact G6.cell 38 _ (G6.var.rIdx _)
    clear hCq hMq F5 G6 c0
    go_upto_region 14 with (first | rw [hW7] | fail)
    try rw [hW7]
    clear c38 f38 hW7
    go_wp2_with fail
    refine (Cu.rHash p (takeS 8 st) _ F7.out.cr).mono ?_
    rintro e w8 ⟨rfl, hCq, hMq⟩
    have G8 := hide (F7.out.call hCq hMq)
    obtain ⟨w9, hW9⟩ : ∃ y, w8.setRow g5 (tabv (Rc.v ⟨K, Upd.zero, nilS, rd8 st, 0, 0, z32, hOf (takeA 32 (takeS 8 st)), z32, 0⟩) 138) = y := ⟨_, rfl⟩
    have F9 : Hid (FB w p g5 (takeS 32 (takeS 8 st)) ⟨K, Upd.zero, nilS, rd8 st, 0, 0, z32, hOf (takeA 32 (takeS 8 st)), z32, 0⟩ w9) := by show FB _ _ _ _ _ _; rw [← hW9]; exact G8.out.row
    clear hCq hMq F7
    go_upto_region 15 with (first | rw [hW9] | refine wpList_store_part rfl 25 _ _ rfl rfl g5 73 (bv (hOf (takeA 32 (takeS 8 st)))) 32 rfl rfl 38 _ 138 G8.out.var (by omega) info26 (fun i _ => rfl) _ (splice_sec _ _) ?_ | fail)
    try rw [hW9]
    clear hW9 G8
    go_wp2_with fail
    refine (Cu.rHash p (takeS 32 (takeS 8 st)) _ F9.out.cr).mono ?_
    rintro e w10 ⟨rfl, hCq, hMq⟩
    have G10 := hide (F9.out.call hCq hMq)
    obtain ⟨w11, hW11⟩ : ∃ y, w10.setRow g5 (tabv (Rc.v ⟨K, Upd.zero, nilS, rd8 st, 0, 0, z32, hOf (takeA 32 (takeS 8 st)), hOf (takeA 32 (takeS 32 (takeS 8 st))), 0⟩) 138) = y := ⟨_, rfl⟩
    have F11 : Hid (FB w p g5 (takeS 32 (takeS 32 (takeS 8 st))) ⟨K, Upd.zero, nilS, rd8 st, 0, 0, z32, hOf (takeA 32 (takeS 8 st)), hOf (takeA 32 (takeS 32 (takeS 8 st))), 0⟩ w11) := by show FB _ _ _ _ _ _; rw [← hW11]; exact G10.out.row
    clear hCq hMq F9
    go_upto_region 20 with (first | rw [hW11] | refine wpList_store_part rfl 25 _ _ rfl rfl g5 105 (bv (hOf (takeA 32 (takeS 32 (takeS 8 st))))) 32 rfl rfl 38 _ 138 G10.out.var (by omega) info26 (fun i _ => rfl) _ (splice_pt _ _) ?_ | fail)
    try rw [hW11]
    clear hW11 G10
    have X1 := F11.out
    have e1 : ⟨K, Upd.zero, nilS, rd8 st, 0, 0, z32, hOf (takeA 32 (takeS 8 st)), hOf (takeA 32 (takeS 32 (takeS 8 st))), 0⟩ = rr := by have := HR.out; rw [HF.out] at this; exact (congrArg Prod.fst this).symm
    have e2 : takeS 32 (takeS 32 (takeS 8 st)) = sf := by have := HR.out; rw [HF.out] at this; exact (congrArg Prod.snd this).symm
    rw [e1, e2] at X1
    clear e1 e2 HR HF F11
    have ER := hide (fun w => Cu.rErr p sf w)
    refine wp_region_noPanic ?_
    refine wp_region_held_drew (S := fun wx => CR wx p sf ∧ Has wx g5 38 rr.v 138 ∧ (∃ f, Has wx w.heap.size 38 f 138) ∧ Below w.heap.size w wx) (by kernel_rfl) (⟨X1.cr, X1.var, ⟨_, X1.res⟩, X1.bel.drew⟩) (fun hHeld => ?_)
    generalize hwd : World.drew _ = wd at hHeld ⊢
    clear hwd
    refine Cu.takeH 0 (some 63) (.agg (tabv rr.v 138)) rfl rfl (by kernel_rfl) (by kernel_rfl) (by kernel_rfl) (fun _ _ _ h => h) (by rfl) (fun w_ hw => run_load_at w_ 38 _ rfl g5 0 (by rfl) _ 138 _ (hw.2.1.at_ 0 (by omega) (fun i hi => by rw [Nat.zero_add])) Tryz.underlying38 rfl infoRc) hHeld ?_
    simp only [Act.put, List.setIfInBounds_toArray, List.set_cons_zero, List.set_cons_succ]
    refine Cu.takeH 1 (some 64) (.pointer (some ⟨p, 0, none⟩)) rfl rfl (by kernel_rfl) (by kernel_rfl) (by kernel_rfl) (fun _ _ _ h => h) (by rfl) (fun w_ hw => by first | rfl | (go_simp; done) | (go_simp; rfl) | (go_simp; omega)) hHeld ?_
    simp only [Act.put, List.setIfInBounds_toArray, List.set_cons_zero, List.set_cons_succ]
    refine wpAnyH_ready (rs := [2]) (by kernel_rfl) (by simp) (AllReadyH.cons rfl (fun K hK => ?_) AllReadyH.nil)
    rw [if_pos (by rfl)]
    go_simp
    refine (ER.out _ hHeld.1).mono ?_
    rintro e wv ⟨rfl, hx⟩
    obtain rfl := hx.symm
    try go_wp2_with fail
    refine hK.out _ _ hHeld (fun hH => ?_)
    clear hK K hHeld
    have hHeld := hH
    clear hH
    refine Cu.takeH 3 (some 66) (.bool (sf.2 == 0)) rfl rfl (by kernel_rfl) (by kernel_rfl) (by kernel_rfl) (fun _ _ _ h => h) (by rfl) (fun w_ hw => by first | rfl | (go_simp; done) | (go_simp; rfl) | (go_simp; omega)) hHeld ?_
    simp only [Act.put, List.setIfInBounds_toArray, List.set_cons_zero, List.set_cons_succ]
    refine wpAnyH_ready (rs := [4]) (by kernel_rfl) (by simp) (AllReadyH.cons rfl (fun K' hK' => ?_) AllReadyH.nil)
    rw [if_pos (by rfl)]
    obtain ⟨f0, hf0⟩ := hHeld.2.2.1
    refine wp_store_part 38 _ _ rfl rfl w.heap.size 0 rr.v 138 rfl rfl 38 f0 138 hf0 (by omega) infoRc (fun i _ => oneRc rr i) rr.v (fun i hi => by unfold splice; rw [if_pos (by omega), Nat.sub_zero]) ?_
    have hres := hf0.row _ rr.v rfl
    refine hK'.out _ _ ⟨hHeld.1.same (setRow_other _ _ _ _ (by have := X1.ord; omega)), hHeld.2.1.row_other _ _ (by have := X1.ord; omega), ⟨_, hres⟩, below_setRow hHeld.2.2.2 (Nat.le_refl _) _⟩ (fun hH => ?_)
    clear hK' K' hHeld hf0
    have hHeld := hH
    clear hH
    generalize hwe : World.setRow _ _ _ = we at hHeld hres ⊢
    clear hwe
    refine Cu.takeH 5 (some 3) (.bool (sf.2 == 0)) rfl rfl (by kernel_rfl) (by kernel_rfl) (by kernel_rfl) (fun _ _ _ h => h) (by rfl) (fun w_ hw => by first | rfl | (go_simp; done) | (go_simp; rfl) | (go_simp; omega)) hHeld ?_
    simp only [Act.put, List.setIfInBounds_toArray, List.set_cons_zero, List.set_cons_succ]
    refine ⟨by kernel_rfl, ?_⟩
    refine NoPanic.normal ?_
    have gB := hHeld.2.2.2
    clear hHeld ER X1
    try go_wp2
    (try simp only [Exit.inBlock, Exit.then])
    exact bodyPost_ret (resRcB _ w.heap.size _ _ (.bool (sf.2 == 0)) 2 3 hres rfl rfl _ rfl) rfl ⟨rfl, gB⟩
  by_cases hK5 : K = 5
  · have HR : Hid (fldK K st = (⟨K, Upd.zero, nilS, 0, 0, 0, z32, z32, z32, (Cu.num 2 st : Int)⟩, takeS 2 st)) := by show _ = _; unfold fldK; rw [if_neg hK2, if_neg hK4, if_pos hK5]
    have k1 : (K == 1) = false := beq_false_of_ne (by omega)
    have k2 : (K == 2) = false := beq_false_of_ne (by omega)
    have k3 : (K == 3) = false := beq_false_of_ne (by omega)
    have k4 : (K == 4) = false := beq_false_of_ne (by omega)
    have k5 : (K == 5) = true := beq_iff_eq.2 hK5
    clear hK2 hK4 hK5 hkk hK0
    obtain ⟨nn, hnn⟩ : ∃ nn, Cu.num 2 st = nn := ⟨_, rfl⟩
    have hnl : nn < 65536 := by rw [← hnn]; exact num2_le _
    have KC := hide (conv16i nn hnl)
    have HNN := hide hnn
    go_wp2_with fail
    refine (Cu.rU16 p st _ F5.out.cr).mono ?_
    rintro e w6 ⟨rfl, hCq, hMq⟩
    rw [show be (takeA 2 st).data.toList = nn from hnn]
    have G6 := F5.out.call hCq hMq
    have c38 : w6.cell? ⟨g5, 137, none⟩ = some (.int .i64 0) := G6.var.cell 137 (by omega)
    have f38 := G6.var.frozen 137
    obtain ⟨w7, hW7⟩ : ∃ y, w6.setCell ⟨g5, 137, none⟩ (.int .i64 (nn : Int)) = y := ⟨_, rfl⟩
    have F7 : Hid (FB w p g5 (takeS 2 st) ⟨K, Upd.zero, nilS, 0, 0, 0, z32, z32, z32, (Cu.num 2 st : Int)⟩ w7) := by show FB _ _ _ _ _ _; rw [← hW7, hnn]; exact G6.cell 137 _ (G6.var.rCode _)
    clear hCq hMq F5 G6 hnn HNN hnl c0
    go_upto_region 20 with (first | rw [hW7] | refine Cu.wpList_conv rfl _ _ _ rfl .u16 .i64 (nn : Int) (nn : Int) (by rfl) (KC.out _) ?_ | fail)
    try rw [hW7]
    clear c38 f38 hW7 KC
    have X1 := F7.out
    have e1 : ⟨K, Upd.zero, nilS, 0, 0, 0, z32, z32, z32, (Cu.num 2 st : Int)⟩ = rr := by have := HR.out; rw [HF.out] at this; exact (congrArg Prod.fst this).symm
    have e2 : takeS 2 st = sf := by have := HR.out; rw [HF.out] at this; exact (congrArg Prod.snd this).symm
    rw [e1, e2] at X1
    clear e1 e2 HR HF F7
    have ER := hide (fun w => Cu.rErr p sf w)
    refine wp_region_noPanic ?_
    refine wp_region_held_drew (S := fun wx => CR wx p sf ∧ Has wx g5 38 rr.v 138 ∧ (∃ f, Has wx w.heap.size 38 f 138) ∧ Below w.heap.size w wx) (by kernel_rfl) (⟨X1.cr, X1.var, ⟨_, X1.res⟩, X1.bel.drew⟩) (fun hHeld => ?_)
    generalize hwd : World.drew _ = wd at hHeld ⊢
    clear hwd
    refine Cu.takeH 0 (some 63) (.agg (tabv rr.v 138)) rfl rfl (by kernel_rfl) (by kernel_rfl) (by kernel_rfl) (fun _ _ _ h => h) (by rfl) (fun w_ hw => run_load_at w_ 38 _ rfl g5 0 (by rfl) _ 138 _ (hw.2.1.at_ 0 (by omega) (fun i hi => by rw [Nat.zero_add])) Tryz.underlying38 rfl infoRc) hHeld ?_
    simp only [Act.put, List.setIfInBounds_toArray, List.set_cons_zero, List.set_cons_succ]
    refine Cu.takeH 1 (some 64) (.pointer (some ⟨p, 0, none⟩)) rfl rfl (by kernel_rfl) (by kernel_rfl) (by kernel_rfl) (fun _ _ _ h => h) (by rfl) (fun w_ hw => by first | rfl | (go_simp; done) | (go_simp; rfl) | (go_simp; omega)) hHeld ?_
    simp only [Act.put, List.setIfInBounds_toArray, List.set_cons_zero, List.set_cons_succ]
    refine wpAnyH_ready (rs := [2]) (by kernel_rfl) (by simp) (AllReadyH.cons rfl (fun K hK => ?_) AllReadyH.nil)
    rw [if_pos (by rfl)]
    go_simp
    refine (ER.out _ hHeld.1).mono ?_
    rintro e wv ⟨rfl, hx⟩
    obtain rfl := hx.symm
    try go_wp2_with fail
    refine hK.out _ _ hHeld (fun hH => ?_)
    clear hK K hHeld
    have hHeld := hH
    clear hH
    refine Cu.takeH 3 (some 66) (.bool (sf.2 == 0)) rfl rfl (by kernel_rfl) (by kernel_rfl) (by kernel_rfl) (fun _ _ _ h => h) (by rfl) (fun w_ hw => by first | rfl | (go_simp; done) | (go_simp; rfl) | (go_simp; omega)) hHeld ?_
    simp only [Act.put, List.setIfInBounds_toArray, List.set_cons_zero, List.set_cons_succ]
    refine wpAnyH_ready (rs := [4]) (by kernel_rfl) (by simp) (AllReadyH.cons rfl (fun K' hK' => ?_) AllReadyH.nil)
    rw [if_pos (by rfl)]
    obtain ⟨f0, hf0⟩ := hHeld.2.2.1
    refine wp_store_part 38 _ _ rfl rfl w.heap.size 0 rr.v 138 rfl rfl 38 f0 138 hf0 (by omega) infoRc (fun i _ => oneRc rr i) rr.v (fun i hi => by unfold splice; rw [if_pos (by omega), Nat.sub_zero]) ?_
    have hres := hf0.row _ rr.v rfl
    refine hK'.out _ _ ⟨hHeld.1.same (setRow_other _ _ _ _ (by have := X1.ord; omega)), hHeld.2.1.row_other _ _ (by have := X1.ord; omega), ⟨_, hres⟩, below_setRow hHeld.2.2.2 (Nat.le_refl _) _⟩ (fun hH => ?_)
    clear hK' K' hHeld hf0
    have hHeld := hH
    clear hH
    generalize hwe : World.setRow _ _ _ = we at hHeld hres ⊢
    clear hwe
    refine Cu.takeH 5 (some 3) (.bool (sf.2 == 0)) rfl rfl (by kernel_rfl) (by kernel_rfl) (by kernel_rfl) (fun _ _ _ h => h) (by rfl) (fun w_ hw => by first | rfl | (go_simp; done) | (go_simp; rfl) | (go_simp; omega)) hHeld ?_
    simp only [Act.put, List.setIfInBounds_toArray, List.set_cons_zero, List.set_cons_succ]
    refine ⟨by kernel_rfl, ?_⟩
    refine NoPanic.normal ?_
    have gB := hHeld.2.2.2
    clear hHeld ER X1
    try go_wp2
    (try simp only [Exit.inBlock, Exit.then])
    exact bodyPost_ret (resRcB _ w.heap.size _ _ (.bool (sf.2 == 0)) 2 3 hres rfl rfl _ rfl) rfl ⟨rfl, gB⟩
  by_cases hK6 : K = 6
  · have HR : Hid (fldK K st = (⟨K, Upd.zero, nilS, rd8 st, 0, 0, z32, z32, z32, 0⟩, takeS 8 st)) := by show _ = _; unfold fldK; rw [if_neg hK2, if_neg hK4, if_neg hK5, if_pos hK6]
    have k1 : (K == 1) = false := beq_false_of_ne (by omega)
    have k2 : (K == 2) = false := beq_false_of_ne (by omega)
    have k3 : (K == 3) = false := beq_false_of_ne (by omega)
    have k4 : (K == 4) = false := beq_false_of_ne (by omega)
    have k5 : (K == 5) = false := beq_false_of_ne (by omega)
    have k6 : (K == 6) = true := beq_iff_eq.2 hK6
    clear hK2 hK4 hK5 hK6 hkk hK0
    go_wp2_with fail
    refine (Cu.rI64 p st _ F5.out.cr (rd8 st) rfl).mono ?_
    rintro e w6 ⟨rfl, hCq, hMq⟩
    have G6 := F5.out.call hCq hMq
    have c38 : w6.cell? ⟨g5, 38, none⟩ = some (.int .i64 0) := G6.var.cell 38 (by omega)
    have f38 := G6.var.frozen 38
    obtain ⟨w7, hW7⟩ : ∃ y, w6.setCell ⟨g5, 38, none⟩ (.int .i64 (rd8 st)) = y := ⟨_, rfl⟩
    have F7 : Hid (FB w p g5 (takeS 8 st) ⟨K, Upd.zero, nilS, rd8 st, 0, 0, z32, z32, z32, 0⟩ w7) := by show FB _ _ _ _ _ _; rw [← hW7]; exact G6.cell 38 _ (G6.var.rIdx _)
    clear hCq hMq F5 G6 c0
    go_upto_region 20 with (first | rw [hW7] | fail)
    try rw [hW7]
    clear c38 f38 hW7
    have X1 := F7.out
    have e1 : ⟨K, Upd.zero, nilS, rd8 st, 0, 0, z32, z32, z32, 0⟩ = rr := by have := HR.out; rw [HF.out] at this; exact (congrArg Prod.fst this).symm
    have e2 : takeS 8 st = sf := by have := HR.out; rw [HF.out] at this; exact (congrArg Prod.snd this).symm
    rw [e1, e2] at X1
    clear e1 e2 HR HF F7
    have ER := hide (fun w => Cu.rErr p sf w)
    refine wp_region_noPanic ?_
    refine wp_region_held_drew (S := fun wx => CR wx p sf ∧ Has wx g5 38 rr.v 138 ∧ (∃ f, Has wx w.heap.size 38 f 138) ∧ Below w.heap.size w wx) (by kernel_rfl) (⟨X1.cr, X1.var, ⟨_, X1.res⟩, X1.bel.drew⟩) (fun hHeld => ?_)
    generalize hwd : World.drew _ = wd at hHeld ⊢
    clear hwd
    refine Cu.takeH 0 (some 63) (.agg (tabv rr.v 138)) rfl rfl (by kernel_rfl) (by kernel_rfl) (by kernel_rfl) (fun _ _ _ h => h) (by rfl) (fun w_ hw => run_load_at w_ 38 _ rfl g5 0 (by rfl) _ 138 _ (hw.2.1.at_ 0 (by omega) (fun i hi => by rw [Nat.zero_add])) Tryz.underlying38 rfl infoRc) hHeld ?_
    simp only [Act.put, List.setIfInBounds_toArray, List.set_cons_zero, List.set_cons_succ]
    refine Cu.takeH 1 (some 64) (.pointer (some ⟨p, 0, none⟩)) rfl rfl (by kernel_rfl) (by kernel_rfl) (by kernel_rfl) (fun _ _ _ h => h) (by rfl) (fun w_ hw => by first | rfl | (go_simp; done) | (go_simp; rfl) | (go_simp; omega)) hHeld ?_
    simp only [Act.put, List.setIfInBounds_toArray, List.set_cons_zero, List.set_cons_succ]
    refine wpAnyH_ready (rs := [2]) (by kernel_rfl) (by simp) (AllReadyH.cons rfl (fun K hK => ?_) AllReadyH.nil)
    rw [if_pos (by rfl)]
    go_simp
    refine (ER.out _ hHeld.1).mono ?_
    rintro e wv ⟨rfl, hx⟩
    obtain rfl := hx.symm
    try go_wp2_with fail
    refine hK.out _ _ hHeld (fun hH => ?_)
    clear hK K hHeld
    have hHeld := hH
    clear hH
    refine Cu.takeH 3 (some 66) (.bool (sf.2 == 0)) rfl rfl (by kernel_rfl) (by kernel_rfl) (by kernel_rfl) (fun _ _ _ h => h) (by rfl) (fun w_ hw => by first | rfl | (go_simp; done) | (go_simp; rfl) | (go_simp; omega)) hHeld ?_
    simp only [Act.put, List.setIfInBounds_toArray, List.set_cons_zero, List.set_cons_succ]
    refine wpAnyH_ready (rs := [4]) (by kernel_rfl) (by simp) (AllReadyH.cons rfl (fun K' hK' => ?_) AllReadyH.nil)
    rw [if_pos (by rfl)]
    obtain ⟨f0, hf0⟩ := hHeld.2.2.1
    refine wp_store_part 38 _ _ rfl rfl w.heap.size 0 rr.v 138 rfl rfl 38 f0 138 hf0 (by omega) infoRc (fun i _ => oneRc rr i) rr.v (fun i hi => by unfold splice; rw [if_pos (by omega), Nat.sub_zero]) ?_
    have hres := hf0.row _ rr.v rfl
    refine hK'.out _ _ ⟨hHeld.1.same (setRow_other _ _ _ _ (by have := X1.ord; omega)), hHeld.2.1.row_other _ _ (by have := X1.ord; omega), ⟨_, hres⟩, below_setRow hHeld.2.2.2 (Nat.le_refl _) _⟩ (fun hH => ?_)
    clear hK' K' hHeld hf0
    have hHeld := hH
    clear hH
    generalize hwe : World.setRow _ _ _ = we at hHeld hres ⊢
    clear hwe
    refine Cu.takeH 5 (some 3) (.bool (sf.2 == 0)) rfl rfl (by kernel_rfl) (by kernel_rfl) (by kernel_rfl) (fun _ _ _ h => h) (by rfl) (fun w_ hw => by first | rfl | (go_simp; done) | (go_simp; rfl) | (go_simp; omega)) hHeld ?_
    simp only [Act.put, List.setIfInBounds_toArray, List.set_cons_zero, List.set_cons_succ]
    refine ⟨by kernel_rfl, ?_⟩
    refine NoPanic.normal ?_
    have gB := hHeld.2.2.2
    clear hHeld ER X1
    try go_wp2
    (try simp only [Exit.inBlock, Exit.then])
    exact bodyPost_ret (resRcB _ w.heap.size _ _ (.bool (sf.2 == 0)) 2 3 hres rfl rfl _ rfl) rfl ⟨rfl, gB⟩
  have HR : Hid (fldK K st = (⟨K, Upd.zero, nilS, 0, 0, 0, z32, z32, z32, 0⟩, st)) := by show _ = _; unfold fldK; rw [if_neg hK2, if_neg hK4, if_neg hK5, if_neg hK6]
  have k1 : (K == 1) = false := beq_false_of_ne (by omega)
  have k2 : (K == 2) = false := beq_false_of_ne (by omega)
  have k3 : (K == 3) = false := beq_false_of_ne (by omega)
  have k4 : (K == 4) = false := beq_false_of_ne (by omega)
  have k5 : (K == 5) = false := beq_false_of_ne (by omega)
  have k6 : (K == 6) = false := beq_false_of_ne (by omega)
  clear hK2 hK4 hK5 hK6 hkk hK0
  go_upto_region 20 with fail
  clear c0
  have X1 := F5.out
  have e1 : ⟨K, Upd.zero, nilS, 0, 0, 0, z32, z32, z32, 0⟩ = rr := by have := HR.out; rw [HF.out] at this; exact (congrArg Prod.fst this).symm
  have e2 : st = sf := by have := HR.out; rw [HF.out] at this; exact (congrArg Prod.snd this).symm
  rw [e1, e2] at X1
  clear e1 e2 HR HF F5
  have ER := hide (fun w => Cu.rErr p sf w)
  refine wp_region_noPanic ?_
  refine wp_region_held_drew (S := fun wx => CR wx p sf ∧ Has wx g5 38 rr.v 138 ∧ (∃ f, Has wx w.heap.size 38 f 138) ∧ Below w.heap.size w wx) (by kernel_rfl) (⟨X1.cr, X1.var, ⟨_, X1.res⟩, X1.bel.drew⟩) (fun hHeld => ?_)
  generalize hwd : World.drew _ = wd at hHeld ⊢
  clear hwd
  refine Cu.takeH 0 (some 63) (.agg (tabv rr.v 138)) rfl rfl (by kernel_rfl) (by kernel_rfl) (by kernel_rfl) (fun _ _ _ h => h) (by rfl) (fun w_ hw => run_load_at w_ 38 _ rfl g5 0 (by rfl) _ 138 _ (hw.2.1.at_ 0 (by omega) (fun i hi => by rw [Nat.zero_add])) Tryz.underlying38 rfl infoRc) hHeld ?_
  simp only [Act.put, List.setIfInBounds_toArray, List.set_cons_zero, List.set_cons_succ]
  refine Cu.takeH 1 (some 64) (.pointer (some ⟨p, 0, none⟩)) rfl rfl (by kernel_rfl) (by kernel_rfl) (by kernel_rfl) (fun _ _ _ h => h) (by rfl) (fun w_ hw => by first | rfl | (go_simp; done) | (go_simp; rfl) | (go_simp; omega)) hHeld ?_
  simp only [Act.put, List.setIfInBounds_toArray, List.set_cons_zero, List.set_cons_succ]
  refine wpAnyH_ready (rs := [2]) (by kernel_rfl) (by simp) (AllReadyH.cons rfl (fun K hK => ?_) AllReadyH.nil)
  rw [if_pos (by rfl)]
  go_simp
  refine (ER.out _ hHeld.1).mono ?_
  rintro e wv ⟨rfl, hx⟩
  obtain rfl := hx.symm
  try go_wp2_with fail
  refine hK.out _ _ hHeld (fun hH => ?_)
  clear hK K hHeld
  have hHeld := hH
  clear hH
  refine Cu.takeH 3 (some 66) (.bool (sf.2 == 0)) rfl rfl (by kernel_rfl) (by kernel_rfl) (by kernel_rfl) (fun _ _ _ h => h) (by rfl) (fun w_ hw => by first | rfl | (go_simp; done) | (go_simp; rfl) | (go_simp; omega)) hHeld ?_
  simp only [Act.put, List.setIfInBounds_toArray, List.set_cons_zero, List.set_cons_succ]
  refine wpAnyH_ready (rs := [4]) (by kernel_rfl) (by simp) (AllReadyH.cons rfl (fun K' hK' => ?_) AllReadyH.nil)
  rw [if_pos (by rfl)]
  obtain ⟨f0, hf0⟩ := hHeld.2.2.1
  refine wp_store_part 38 _ _ rfl rfl w.heap.size 0 rr.v 138 rfl rfl 38 f0 138 hf0 (by omega) infoRc (fun i _ => oneRc rr i) rr.v (fun i hi => by unfold splice; rw [if_pos (by omega), Nat.sub_zero]) ?_
  have hres := hf0.row _ rr.v rfl
  refine hK'.out _ _ ⟨hHeld.1.same (setRow_other _ _ _ _ (by have := X1.ord; omega)), hHeld.2.1.row_other _ _ (by have := X1.ord; omega), ⟨_, hres⟩, below_setRow hHeld.2.2.2 (Nat.le_refl _) _⟩ (fun hH => ?_)
  clear hK' K' hHeld hf0
  have hHeld := hH
  clear hH
  generalize hwe : World.setRow _ _ _ = we at hHeld hres ⊢
  clear hwe
  refine Cu.takeH 5 (some 3) (.bool (sf.2 == 0)) rfl rfl (by kernel_rfl) (by kernel_rfl) (by kernel_rfl) (fun _ _ _ h => h) (by rfl) (fun w_ hw => by first | rfl | (go_simp; done) | (go_simp; rfl) | (go_simp; omega)) hHeld ?_
  simp only [Act.put, List.setIfInBounds_toArray, List.set_cons_zero, List.set_cons_succ]
  refine ⟨by kernel_rfl, ?_⟩
  refine NoPanic.normal ?_
  have gB := hHeld.2.2.2
  clear hHeld ER X1
  try go_wp2
  (try simp only [Exit.inBlock, Exit.then])
  exact bodyPost_ret (resRcB _ w.heap.size _ _ (.bool (sf.2 == 0)) 2 3 hres rfl rfl _ rfl) rfl ⟨rfl, gB⟩
end Go.Proofs.YtlohfoggcdaeiaaGreat
