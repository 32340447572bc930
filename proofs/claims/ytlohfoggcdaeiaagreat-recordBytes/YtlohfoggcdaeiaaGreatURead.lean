/-
  Read of the code (printed by gen_read.py).
-/
import Derived.Test.YtlohfoggcdaeiaaGreatUWrite
namespace Go.Proofs.YtlohfoggcdaeiaaGreat
set_option maxRecDepth 20000
open Go.RowKit S
set_option linter.unusedVariables false
set_option linter.unusedSimpArgs false
open Cu (nb hl ofL CW Mw CR Mr RS takeS takeA hOf textA textS)
section
variable {w : World} {g : Nat} {u : Upd}
theorem Has.setId (h : Has w g 36 u.v 36) (x : Int) : Has (w.setCell ⟨g, 1, none⟩ (.int .i64 x)) g 36 (Upd.v ⟨u.kind, x, u.amt, u.hash, u.note⟩) 36 :=
  (h.set 1 _).congr _ (fun i hi => by by_cases e : i = 1 <;> simp [upd, Upd.v, e])
theorem Has.setAmt (h : Has w g 36 u.v 36) (x : Int) : Has (w.setCell ⟨g, 2, none⟩ (.int .i64 x)) g 36 (Upd.v ⟨u.kind, u.id, x, u.hash, u.note⟩) 36 :=
  (h.set 2 _).congr _ (fun i hi => by by_cases e : i = 2 <;> simp [upd, Upd.v, e])
theorem Has.setNote (h : Has w g 36 u.v 36) (x : ByteArray) : Has (w.setCell ⟨g, 35, none⟩ (.string x)) g 36 (Upd.v ⟨u.kind, u.id, u.amt, u.hash, x⟩) 36 :=
  (h.set 35 _).congr _ (fun i hi => by
    by_cases e : i = 35
    · subst e; simp [upd, Upd.v]
    · have : i < 35 := by omega
      simp [upd, Upd.v, e, this])
theorem splice_hash (u : Upd) (h : Nat → UInt8) (i : Nat) (hi : i < 36) : splice u.v 3 (bv h) 32 i = Upd.v ⟨u.kind, u.id, u.amt, h, u.note⟩ i := by
  unfold splice
  by_cases e : 3 ≤ i ∧ i < 3 + 32
  · rw [if_pos e]
    have := Upd.v_hash ⟨u.kind, u.id, u.amt, h, u.note⟩ (i - 3) (by omega)
    rw [show 3 + (i - 3) = i by omega] at this
    exact this.symm
  · rw [if_neg e]
    unfold Upd.v
    by_cases e0 : i = 0
    · simp [e0]
    · by_cases e1 : i = 1
      · simp [e1]
      · by_cases e2 : i = 2
        · simp [e2]
        · rw [if_neg e0, if_neg e1, if_neg e2, if_neg (by omega), if_neg e0, if_neg e1, if_neg e2, if_neg (by omega)]
theorem Has.setHash (h : Has w g 36 u.v 36) (x : Nat → UInt8) : Has (w.setRow g (tabv (Upd.v ⟨u.kind, u.id, u.amt, x, u.note⟩) 36)) g 36 (Upd.v ⟨u.kind, u.id, u.amt, x, u.note⟩) 36 := h.row _ _ rfl
end
section
variable {ops : Array Oper} {rest : List Oper} {o : Oper} {a : Act} {w : World} {Q : Exit → Act → World → Prop}
theorem wpList_storeUH (hgd : o.guard = none) (x y : Operand) (ho : o.op = .store 25 x y) (hd : o.dst = none) (g : Nat) (u : Upd) (h : Nat → UInt8) (hx : a.eval x = .pointer (some ⟨g, 3, none⟩)) (hy : a.eval y = .agg (tabv (bv h) 32)) (hg : Has w g 36 u.v 36)
    (hk : wpList Tryz.prog ops Q rest a (w.setRow g (tabv (Upd.v ⟨u.kind, u.id, u.amt, h, u.note⟩) 36))) : wpList Tryz.prog ops Q (o :: rest) a w :=
  wpList_store_part hgd 25 x y ho hd g 3 (bv h) 32 hx hy 36 u.v 36 hg (by omega) info26 (fun i _ => rfl) _ (splice_hash u h) hk
theorem wp_storeU {K : Act → World → Prop} (x y : Operand) (ho : o.op = .store 36 x y) (hd : o.dst = none) (g : Nat) (s : Upd) (hx : a.eval x = .pointer (some ⟨g, 0, none⟩)) (hy : a.eval y = .agg (tabv s.v 36)) (f : Nat → Value) (hg : Has w g 36 f 36)
    (hk : K a (w.setRow g (tabv s.v 36))) : o.wp Tryz.prog a w K Q := by
  unfold Oper.wp execOp
  simp only [ho, hx, hy, Instr.storeAt, Instr.sureAddr, Sem.run_bind, Sem.run_pure, Result.andThen_ok, run_storeVar_part w g 0 36 36 f s.v 36 36 hg (by omega) infoU (fun i _ => oneV s i)]
  rw [tabv_congr _ s.v 36 (fun i hi => by unfold splice; rw [if_pos (by omega), Nat.sub_zero])]
  unfold Oper.upon
  first | exact hk | (simp only [hd]; exact hk)
set_option maxRecDepth 100000 in
theorem builtK (x : Int) : Tryz.prog.built 36 [(0, .int .i64 x)] = some (tabv (Upd.v ⟨x, 0, 0, fun _ => 0, nilB⟩) 36) := by kernel_rfl
theorem wpList_buildK (hgd : o.guard = none) (p0 : Operand) (ho : o.op = .build 36 #[(0, p0)]) (x : Int) (h0 : a.eval p0 = .int .i64 x)
    (hk : wpList Tryz.prog ops Q rest (a.put o.dst (.agg (tabv (Upd.v ⟨x, 0, 0, fun _ => 0, nilB⟩) 36))) w) : wpList Tryz.prog ops Q (o :: rest) a w :=
  wpList_plain hgd fun K hK => by
    have e : ((#[(0, p0)] : Array (Nat × Operand)).map fun (i, y) => (i, a.eval y)).toList = [(0, .int .i64 x)] := by
      rw [Array.toList_map]
      show [(0, a.eval p0)] = _
      rw [h0]
    refine wp_build _ _ ho (by rw [e, builtK]; rfl) ?_
    rw [e, builtK]
    exact hK _ _ hk
end
theorem resU3 (w : World) (g : Nat) (f : Nat → Value) (tmps : Array Value) (k k2 : Value) (c t t2 : Nat) (hg : Has w g 36 f 36) (hp : tmps.getD c undef = .pointer (some ⟨g, 0, none⟩)) (hq : tmps.getD t undef = k) (hq2 : tmps.getD t2 undef = k2) (fn : Func) (h : fn.results = #[.cell c 36, .tmp t, .tmp t2]) :
    (results fn tmps).run Tryz.prog w = .ok (.tuple #[.agg (tabv f 36), k, k2]) w := by
  have := run_loadVar_row (P := Tryz.prog) w g 36 36 (tabv f 36) (0, 0) _ hg Tryz.underlying36 rfl (by rw [tabv_size]; exact infoU)
  simp only [Array.getD_eq_getD_getElem?] at hp hq hq2
  simp [results, h, hp, hq, hq2, asAddr, this]
def readEnd (b : ByteArray) (u : Upd) (st : RS) : Upd × Int × Int :=
  if (st.2 == 2) = true then (Upd.zero, 0, 2) else if ((st.2 == 0) && validB u) = true then (u, (b.size : Int) - (st.1.size : Int), 0) else (Upd.zero, 0, 120)
def readK (b : ByteArray) (K I : Int) (st1 st2 : RS) : Upd × Int × Int :=
  if (st1.2 == 0) = true then
    if K = 1 then readEnd b ⟨1, I, IntKind.i64.wrap (Cu.num 8 st2 : Int), hOf (takeA 32 (takeS 8 st2)), nilB⟩ (takeS 32 (takeS 8 st2))
    else if K = 2 then readEnd b ⟨2, I, 0, hOf (takeA 32 st2), nilB⟩ (takeS 32 st2)
    else if K = 3 then readEnd b ⟨3, I, 0, fun _ => 0, textA 64 st2⟩ (textS 64 st2)
    else (Upd.zero, 0, 120)
  else readEnd b ⟨0, I, 0, fun _ => 0, nilB⟩ st2
def readC (b : ByteArray) : Upd × Int × Int := readK b (Cu.num 1 (b, 0) : Int) (Cu.num 2 (takeS 1 (b, 0)) : Int) (takeS 1 (b, 0)) (takeS 2 (takeS 1 (b, 0)))
theorem num1_lt (st : RS) : Cu.num 1 st < 256 := by
  have h := Cu.be_lt (takeA 1 st).data.toList
  have h2 := Cu.takeA_le 1 st
  rw [Cu.str_len] at h
  have : 256 ^ (takeA 1 st).size ≤ 256 ^ 1 := Nat.pow_le_pow_right (by decide) h2
  unfold Cu.num
  omega
theorem zero_of_empty : Upd.zero.note = nilB := rfl
set_option maxRecDepth 100000 in
set_option maxHeartbeats 4000000 in
theorem read_any (b : ByteArray) (w : World) (hb : b.size ≤ 281474976710656) : Calls Tryz.prog 93 #[.string b] w fun e w' => e = .returned (.tuple #[.agg (tabv (readC b).1.v 36), .int .i64 (readC b).2.1, .int .i64 (readC b).2.2]) ∧ Below w.heap.size w w' := by
  obtain ⟨w3, hW⟩ : ∃ w3, w.alloc (.cells (tabv Upd.zero.v 36) 36) = w3 := ⟨_, rfl⟩
  have g0 : Has w3 w.heap.size 36 Upd.zero.v 36 := by rw [← hW]; exact Has.new w 36 Upd.zero.v 36 _ rfl
  have gb : Below w.heap.size w w3 := by rw [← hW]; exact (Below.refl w.heap.size w).alloc (Nat.le_refl _) _
  rw [← zero36] at hW
  have G0 := hide g0
  have HB := hide hb
  obtain ⟨X, hX⟩ : ∃ X, readC b = X := ⟨_, rfl⟩
  rw [hX]
  unfold readC at hX
  have hk1 := num1_lt (b, 0)
  have hk2 := Cu.num2_lt (takeS 1 (b, 0))
  obtain ⟨K, hK⟩ : ∃ K : Int, (Cu.num 1 (b, 0) : Int) = K := ⟨_, rfl⟩
  obtain ⟨st1, hs1⟩ : ∃ st, takeS 1 (b, 0) = st := ⟨_, rfl⟩
  rw [hK, hs1] at hX
  rw [hs1] at hk2
  obtain ⟨I, hI⟩ : ∃ I : Int, (Cu.num 2 st1 : Int) = I := ⟨_, rfl⟩
  obtain ⟨st2, hs2⟩ : ∃ st, takeS 2 st1 = st := ⟨_, rfl⟩
  rw [hI, hs2] at hX
  have KC : Hid (∀ w : World, (convert 5 3 (.int .u8 K)).run Tryz.prog w = .ok (.int .i64 K) w) := fun w => by
    have h := run_convert_int (P := Tryz.prog) (w := w) 5 3 .u8 K (by kernel_rfl) (by kernel_rfl)
    rw [show Tryz.prog.intKind 3 = .i64 by kernel_rfl, show IntKind.i64.wrap K = K by rw [IntKind.wrap_i64]; omega] at h
    exact h
  have KI : Hid (∀ w : World, (convert 115 2 (.int .u16 I)).run Tryz.prog w = .ok (.int .i64 I) w) := fun w => by
    have h := run_convert_int (P := Tryz.prog) (w := w) 115 2 .u16 I (by kernel_rfl) (by kernel_rfl)
    rw [show Tryz.prog.intKind 2 = .i64 by kernel_rfl, show IntKind.i64.wrap I = I by rw [IntKind.wrap_i64]; omega] at h
    exact h
  have U8 := fun (p : Nat) (w : World) (h : CR w p (b, 0)) => Cu.rU8 p (b, 0) w h
  have U16 := fun (p : Nat) (w : World) (h : CR w p st1) => Cu.rU16 p st1 w h
  have hK' : (Cu.be (takeA 1 (b, 0)).data.toList : Int) = K := hK
  have hI' : (Cu.be (takeA 2 st1).data.toList : Int) = I := hI
  simp only [hK', hs1] at U8
  simp only [hI', hs2] at U16
  have z1 : st1.1.size ≤ b.size := by rw [← hs1]; exact Cu.takeS_size 1 (b, 0)
  have z2 : st2.1.size ≤ b.size := by rw [← hs2]; exact Nat.le_trans (Cu.takeS_size 2 st1) z1
  have HX := hide hX
  have KN : Hid ((st1.2 == 0) = false → K = 0) := fun h => by
    rw [← hK]
    have h1 : Cu.num 1 (b, 0) = 0 := by
      unfold Cu.num
      rw [show takeA 1 (b, 0) = Cu.nil8 by
        unfold takeA
        rw [if_pos rfl]
        rw [← hs1] at h
        unfold takeS at h
        rw [if_pos rfl] at h
        by_cases h0 : ((b.size : Int) < 1)
        · rw [if_pos h0]
        · rw [if_neg h0] at h; simp at h]
      rfl
    rw [h1]; rfl
  have K0 : Hid (0 ≤ K ∧ K < 256) := by show _ ∧ _; omega
  have U8 := hide U8
  have U16 := hide U16
  have Z2 := hide z2
  clear hk1 hk2 hK hs1 hI hs2 hX hK' hI' z1 z2 hb g0
  go_enter Tryz.func93, Tryz.ntmps93
  go_wp2_with fail
  refine (Cu.rOpen b _).mono ?_
  rintro e w4 ⟨rfl, hC4, hb4, hs4⟩
  have hp : w.heap.size < w3.heap.size := G0.out.lt
  have G4 := hide (G0.out.below hb4 G0.out.lt)
  have gb4 := gb.trans (hb4.mono gb.size)
  have hp4 : w3.heap.size < w4.heap.size := by omega
  generalize w3.heap.size = p at hC4 hp hp4 ⊢
  have HP := hide hp
  have HP4 := hide hp4
  clear hb4 hs4 gb hW hp hp4 G0
  go_wp2_with fail
  refine (U8.out p _ hC4).mono ?_
  rintro e w5 ⟨rfl, hC5, hM5⟩
  have G5 := hide (G4.out.mr hM5 (Nat.ne_of_lt HP.out))
  have gb5 := gb4.trans (hM5.below (Nat.le_of_lt HP.out) gb4.size)
  have HP5 : Hid (p < w5.heap.size) := hC5.lt
  obtain ⟨w6, w7, hW6, q1, hW7, r1, rb⟩ := newU w5 ⟨K, 0, 0, fun _ => 0, nilB⟩
  have Q1 := hide q1
  have R7 := hide r1
  have G7 := hide (G5.out.below rb G5.out.lt)
  have gb7 := gb5.trans (rb.mono gb5.size)
  have hC7 := hC5.below rb
  have HG7 : Hid (p < w5.heap.size ∧ w.heap.size < w5.heap.size) := ⟨HP5.out, G5.out.lt⟩
  have c0 : w7.cell? ⟨w5.heap.size, 0, none⟩ = some (.int .i64 K) := r1.cell 0 (by omega)
  have U8x := U8
  clear hC4 hC5 hM5 rb q1 r1 gb4 gb5 G4 G5 HP4 HP5 U8 U8x
  generalize hG6 : w5.heap.size = G6 at Q1 R7 HG7 c0 hW7
  go_wp2_with (first | refine Cu.wpList_conv rfl _ _ _ rfl .u8 .i64 K K (by rfl) (KC.out _) ?_ | refine wpList_buildK rfl _ rfl K rfl ?_ | refine wpList_storeU rfl _ _ rfl rfl G6 ⟨K, 0, 0, fun _ => 0, nilB⟩ rfl rfl _ Q1.out ?_ | fail)
  try rw [hW7]
  clear hW6 hW7 Q1
  refine (Cu.rErr p st1 _ hC7).mono ?_
  rintro e w8 ⟨rfl, rfl⟩
  cases e1 : (st1.2 == 0) with
  | false =>
    obtain rfl : K = 0 := KN.out e1
    have HXX : Hid (X = readEnd b ⟨0, I, 0, fun _ => 0, nilB⟩ st2) := HX.out.symm.trans (by unfold readK; rw [if_neg (by rw [e1]; decide)])
    go_wp2_with fail
    refine (U16.out p _ hC7).mono ?_
    rintro e w9 ⟨rfl, hC9, hM9⟩
    have G9 := hide (G7.out.mr hM9 (Nat.ne_of_lt HP.out))
    have R9 := hide (R7.out.mr hM9 (Nat.ne_of_gt HG7.out.1))
    have gb9 := gb7.trans (hM9.below (Nat.le_of_lt HP.out) gb7.size)
    have c1 : w9.cell? ⟨G6, 1, none⟩ = some (.int .i64 0) := R9.out.cell 1 (by omega)
    have f1 := R9.out.frozen 1
    obtain ⟨wA, hWA⟩ : ∃ x, w9.setCell ⟨G6, 1, none⟩ (.int .i64 I) = x := ⟨_, rfl⟩
    have RA : Hid (Has wA G6 36 (Upd.v ⟨0, I, 0, fun _ => 0, nilB⟩) 36) := by rw [← hWA]; exact R9.out.setId I
    have GA : Hid (Has wA w.heap.size 36 Upd.zero.v 36) := by rw [← hWA]; exact G9.out.other _ _ (Nat.ne_of_lt HG7.out.2)
    have hCA : CR wA p st2 := by rw [← hWA]; exact hC9.same (Below.heap_setCell w9 ⟨G6, 1, none⟩ _ p (Nat.ne_of_lt HG7.out.1))
    have gbA : Below w.heap.size w wA := by rw [← hWA]; exact gb9.setCell (Nat.le_of_lt HG7.out.2) _
    have d0 : wA.cell? ⟨G6, 0, none⟩ = some (.int .i64 0) := RA.out.cell 0 (by omega)
    clear hC9 hM9 gb9 gb7 hC7 U16 c0
    go_wp2_with (first | refine Cu.wpList_conv rfl _ _ _ rfl .u16 .i64 I I (by rfl) (KI.out _) ?_ | fail)
    refine (Cu.rErr p _ _ hCA).mono ?_
    rintro e wE ⟨rfl, rfl⟩
    cases e2 : (st2.2 == 2) with
    | true =>
      go_wp2_with (first | refine wpList_buildZ rfl rfl ?_ | refine wpList_storeU rfl _ _ rfl rfl w.heap.size Upd.zero rfl rfl _ GA.out ?_)
      exact bodyPost_ret (resU3 _ w.heap.size _ _ (.int .i64 0) (.int .i64 2) 2 3 4 (GA.out.row _ Upd.zero.v rfl) rfl rfl rfl _ rfl) rfl ⟨by rw [HXX.out]; unfold readEnd; simp [e2], below_setRow gbA (Nat.le_refl _) _⟩
    | false =>
      go_wp2_with fail
      refine (Cu.rErr p _ _ hCA).mono ?_
      rintro e wE2 ⟨rfl, rfl⟩
      cases e0 : (st2.2 == 0) with
      | false =>
        have e0n : (st2.2 != 0) = true := by simp [bne, e0]
        go_wp2_with (first | refine wpList_buildZ rfl rfl ?_ | refine wpList_storeU rfl _ _ rfl rfl w.heap.size Upd.zero rfl rfl _ GA.out ?_)
        exact bodyPost_ret (resU3 _ w.heap.size _ _ (.int .i64 0) (.int .i64 120) 2 3 4 (GA.out.row _ Upd.zero.v rfl) rfl rfl rfl _ rfl) rfl ⟨by rw [HXX.out]; unfold readEnd; simp [e2, e0], below_setRow gbA (Nat.le_refl _) _⟩
      | true =>
        have e0n : (st2.2 != 0) = false := by simp [bne, e0]
        have HVV := hide (fun w : World => valid_any ⟨0, I, 0, fun _ => 0, nilB⟩ w)
        go_wp2_with (first | refine wpW_load_at 36 _ rfl (G6) (0) (by rfl) (by rfl) _ 36 _ (RA.out.at_ 0 (by omega) (fun i hi => by rw [Nat.zero_add])) Tryz.underlying36 rfl infoU ?_ | fail)
        refine (HVV.out _).mono ?_
        rintro e wF ⟨rfl, hbF⟩
        have GF := hide (GA.out.below hbF GA.out.lt)
        have RF := hide (RA.out.below hbF RA.out.lt)
        have hCF := hCA.below hbF
        have gbF := gbA.trans (hbF.mono gbA.size)
        clear hbF HVV
        cases hv : validB ⟨0, I, 0, fun _ => 0, nilB⟩ with
        | false =>
          go_wp2_with (first | refine wpList_buildZ rfl rfl ?_ | refine wpList_storeU rfl _ _ rfl rfl w.heap.size Upd.zero rfl rfl _ GF.out ?_)
          exact bodyPost_ret (resU3 _ w.heap.size _ _ (.int .i64 0) (.int .i64 120) 2 3 4 (GF.out.row _ Upd.zero.v rfl) rfl rfl rfl _ rfl) rfl ⟨by rw [HXX.out]; unfold readEnd; simp [e2, e0, hv], below_setRow gbF (Nat.le_refl _) _⟩
        | true =>
          go_wp2
          refine wp_region_noPanic ?_
          refine wp_region_held_drew (S := fun wx => Has wx G6 36 (Upd.v ⟨0, I, 0, fun _ => 0, nilB⟩) 36 ∧ CR wx p st2 ∧ (∃ f, Has wx w.heap.size 36 f 36) ∧ Below w.heap.size w wx) (by kernel_rfl) (⟨RF.out, hCF, ⟨_, GF.out⟩, gbF.drew⟩) (fun hHeld => ?_)
          refine Cu.takeH 0 (some 64) (.agg (tabv (Upd.v ⟨0, I, 0, fun _ => 0, nilB⟩) 36)) rfl rfl (by kernel_rfl) (by kernel_rfl) (by kernel_rfl) (fun _ _ _ h => h) (by rfl) (fun w hw => run_load_at w 36 _ rfl G6 0 (by rfl) _ 36 _ (hw.1.at_ 0 (by omega) (fun i hi => by rw [Nat.zero_add])) Tryz.underlying36 rfl infoU) hHeld ?_
          simp only [Act.put, List.setIfInBounds_toArray, List.set_cons_zero, List.set_cons_succ]
          refine Cu.takeH 1 (some 65) (.string b) rfl rfl (by kernel_rfl) (by kernel_rfl) (by kernel_rfl) (fun _ _ _ h => h) (by rfl) (fun w hw => by first | rfl | (go_simp; done) | (go_simp; rfl)) hHeld ?_
          simp only [Act.put, List.setIfInBounds_toArray, List.set_cons_zero, List.set_cons_succ]
          refine Cu.takeH 2 (some 66) (.int .i64 (b.size : Int)) rfl rfl (by kernel_rfl) (by kernel_rfl) (by kernel_rfl) (fun _ _ _ h => h) (by rfl) (fun w hw => by first | rfl | (go_simp; done) | (go_simp; rfl)) hHeld ?_
          simp only [Act.put, List.setIfInBounds_toArray, List.set_cons_zero, List.set_cons_succ]
          refine Cu.takeH 3 (some 67) (.pointer (some ⟨p, 0, none⟩)) rfl rfl (by kernel_rfl) (by kernel_rfl) (by kernel_rfl) (fun _ _ _ h => h) (by rfl) (fun w hw => by first | rfl | (go_simp; done) | (go_simp; rfl)) hHeld ?_
          simp only [Act.put, List.setIfInBounds_toArray, List.set_cons_zero, List.set_cons_succ]
          refine wpAnyH_ready (rs := [4]) (by kernel_rfl) (by simp) (AllReadyH.cons rfl (fun K hK => ?_) AllReadyH.nil)
          rw [if_pos (by rfl)]
          go_simp
          refine (Cu.rRest p st2 _ hHeld.2.1 (Nat.le_trans Z2.out HB.out)).mono ?_
          rintro e wH ⟨rfl, hbH⟩
          try go_wp2_with fail
          refine hK.out _ _ (⟨hHeld.1.below hbH hHeld.1.lt, hHeld.2.1.below hbH, ⟨_, GF.out.below (w := wF.drew) hbH GF.out.lt⟩, hHeld.2.2.2.trans (hbH.mono hHeld.2.2.2.size)⟩) (fun hH => ?_)
          clear hK K hHeld
          have hHeld := hH
          clear hH
          have GH := GF.out.below (w := wF.drew) hbH GF.out.lt
          refine Cu.takeH 5 (some 69) (.int .i64 (st2.1.size : Int)) rfl rfl (by kernel_rfl) (by kernel_rfl) (by kernel_rfl) (fun _ _ _ h => h) (by rfl) (fun w hw => by first | rfl | (go_simp; done) | (go_simp; rfl)) hHeld ?_
          simp only [Act.put, List.setIfInBounds_toArray, List.set_cons_zero, List.set_cons_succ]
          refine Cu.takeH 6 (some 70) (.int .i64 ((b.size : Int) - (st2.1.size : Int))) rfl rfl (by kernel_rfl) (by kernel_rfl) (by kernel_rfl) (fun _ _ _ h => h) (by rfl) (fun w hw => by have z1 := Z2.out; have z2 := HB.out; have z3 : IntKind.i64.wrap ((b.size : Int) - (st2.1.size : Int)) = (b.size : Int) - (st2.1.size : Int) := (by rw [IntKind.wrap_i64]; omega); first | rfl | (go_simp; done) | (go_simp; rfl)) hHeld ?_
          simp only [Act.put, List.setIfInBounds_toArray, List.set_cons_zero, List.set_cons_succ]
          refine wpAnyH_ready (rs := [7]) (by kernel_rfl) (by simp) (AllReadyH.cons rfl (fun K hK => ?_) AllReadyH.nil)
          rw [if_pos (by rfl)]
          refine wp_storeU _ _ rfl rfl w.heap.size ⟨0, I, 0, fun _ => 0, nilB⟩ rfl rfl _ GH ?_
          refine hK.out _ _ ⟨hHeld.1.row_other _ _ (Nat.ne_of_gt HG7.out.2), hHeld.2.1.same (setRow_other _ _ _ _ (Nat.ne_of_gt HP.out)), ⟨_, GH.row _ _ rfl⟩, below_setRow hHeld.2.2.2 (Nat.le_refl _) _⟩ (fun hH => ?_)
          clear hK K hHeld
          have hHeld := hH
          refine Cu.takeH 8 (some 3) (.int .i64 ((b.size : Int) - (st2.1.size : Int))) rfl rfl (by kernel_rfl) (by kernel_rfl) (by kernel_rfl) (fun _ _ _ h => h) (by rfl) (fun w hw => by first | rfl | (go_simp; done) | (go_simp; rfl)) hHeld ?_
          simp only [Act.put, List.setIfInBounds_toArray, List.set_cons_zero, List.set_cons_succ]
          refine Cu.takeH 9 (some 4) (.int .i64 0) rfl rfl (by kernel_rfl) (by kernel_rfl) (by kernel_rfl) (fun _ _ _ h => h) (by rfl) (fun w hw => by first | rfl | (go_simp; done) | (go_simp; rfl)) hHeld ?_
          simp only [Act.put, List.setIfInBounds_toArray, List.set_cons_zero, List.set_cons_succ]
          refine ⟨by kernel_rfl, ?_⟩
          refine NoPanic.normal ?_
          try go_wp2
          exact bodyPost_ret (resU3 _ w.heap.size _ _ (.int .i64 ((b.size : Int) - (st2.1.size : Int))) (.int .i64 0) 2 3 4 (GH.row _ _ rfl) rfl rfl rfl _ rfl) rfl ⟨by rw [HXX.out]; unfold readEnd; simp [e2, e0, hv], hH.2.2.2⟩
  | true =>
    by_cases k1 : K = 1
    · subst k1
      obtain ⟨Am, hAm⟩ : ∃ Am : Int, IntKind.i64.wrap (Cu.num 8 st2 : Int) = Am := ⟨_, rfl⟩
      obtain ⟨st3, hs3⟩ : ∃ st, takeS 8 st2 = st := ⟨_, rfl⟩
      obtain ⟨Hh, hHh⟩ : ∃ h, hOf (takeA 32 st3) = h := ⟨_, rfl⟩
      obtain ⟨st4, hs4⟩ : ∃ st, takeS 32 st3 = st := ⟨_, rfl⟩
      have HXX : Hid (X = readEnd b ⟨1, I, Am, Hh, nilB⟩ st4) := HX.out.symm.trans (by unfold readK; rw [if_pos e1, if_pos rfl, hAm, hs3, hHh, hs4])
      have Z4 : Hid (st4.1.size ≤ b.size) := by
        show _ ≤ _
        rw [← hs4, ← hs3]
        exact Nat.le_trans (Nat.le_trans (Cu.takeS_size 32 _) (Cu.takeS_size 8 st2)) Z2.out
      have I64 := fun (w : World) (h : CR w p st2) => Cu.rI64 p st2 w h Am hAm
      have HSH := fun (w : World) (h : CR w p st3) => Cu.rHash p st3 w h
      simp only [hs3] at I64
      simp only [hHh, hs4] at HSH
      have I64 := hide I64
      have HSH := hide HSH
      clear hAm hs3 hHh hs4
      go_wp2_with fail
      refine (U16.out p _ hC7).mono ?_
      rintro e w9 ⟨rfl, hC9, hM9⟩
      have G9 := hide (G7.out.mr hM9 (Nat.ne_of_lt HP.out))
      have R9 := hide (R7.out.mr hM9 (Nat.ne_of_gt HG7.out.1))
      have gb9 := gb7.trans (hM9.below (Nat.le_of_lt HP.out) gb7.size)
      have c1 : w9.cell? ⟨G6, 1, none⟩ = some (.int .i64 0) := R9.out.cell 1 (by omega)
      have f1 := R9.out.frozen 1
      obtain ⟨wA, hWA⟩ : ∃ x, w9.setCell ⟨G6, 1, none⟩ (.int .i64 I) = x := ⟨_, rfl⟩
      have RA : Hid (Has wA G6 36 (Upd.v ⟨1, I, 0, fun _ => 0, nilB⟩) 36) := by rw [← hWA]; exact R9.out.setId I
      have GA : Hid (Has wA w.heap.size 36 Upd.zero.v 36) := by rw [← hWA]; exact G9.out.other _ _ (Nat.ne_of_lt HG7.out.2)
      have hCA : CR wA p st2 := by rw [← hWA]; exact hC9.same (Below.heap_setCell w9 ⟨G6, 1, none⟩ _ p (Nat.ne_of_lt HG7.out.1))
      have gbA : Below w.heap.size w wA := by rw [← hWA]; exact gb9.setCell (Nat.le_of_lt HG7.out.2) _
      have d0 : wA.cell? ⟨G6, 0, none⟩ = some (.int .i64 1) := RA.out.cell 0 (by omega)
      clear hC9 hM9 gb9 gb7 hC7 U16 c0
      go_wp2_with (first | refine Cu.wpList_conv rfl _ _ _ rfl .u16 .i64 I I (by rfl) (KI.out _) ?_ | fail)
      refine (I64.out _ hCA).mono ?_
      rintro e wB ⟨rfl, hCB, hMB⟩
      have GB := hide (GA.out.mr hMB (Nat.ne_of_lt HP.out))
      have RB := hide (RA.out.mr hMB (Nat.ne_of_gt HG7.out.1))
      have gbB := gbA.trans (hMB.below (Nat.le_of_lt HP.out) gbA.size)
      have c2 : wB.cell? ⟨G6, 2, none⟩ = some (.int .i64 0) := RB.out.cell 2 (by omega)
      have f2 := RB.out.frozen 2
      obtain ⟨wC, hWC⟩ : ∃ x, wB.setCell ⟨G6, 2, none⟩ (.int .i64 Am) = x := ⟨_, rfl⟩
      have RC : Hid (Has wC G6 36 (Upd.v ⟨1, I, Am, fun _ => 0, nilB⟩) 36) := by rw [← hWC]; exact RB.out.setAmt Am
      have GC : Hid (Has wC w.heap.size 36 Upd.zero.v 36) := by rw [← hWC]; exact GB.out.other _ _ (Nat.ne_of_lt HG7.out.2)
      have hCC : CR wC p st3 := by rw [← hWC]; exact hCB.same (Below.heap_setCell wB ⟨G6, 2, none⟩ _ p (Nat.ne_of_lt HG7.out.1))
      have gbC : Below w.heap.size w wC := by rw [← hWC]; exact gbB.setCell (Nat.le_of_lt HG7.out.2) _
      clear hCB hMB gbB gbA hCA I64 d0 hWA c1 f1
      go_wp2_with fail
      refine (HSH.out _ hCC).mono ?_
      rintro e wD ⟨rfl, hCD, hMD⟩
      have GD := hide (GC.out.mr hMD (Nat.ne_of_lt HP.out))
      have RD := hide (RC.out.mr hMD (Nat.ne_of_gt HG7.out.1))
      have gbD := gbC.trans (hMD.below (Nat.le_of_lt HP.out) gbC.size)
      obtain ⟨wE, hWE⟩ : ∃ x, wD.setRow G6 (tabv (Upd.v ⟨1, I, Am, Hh, nilB⟩) 36) = x := ⟨_, rfl⟩
      have RE : Hid (Has wE G6 36 (Upd.v ⟨1, I, Am, Hh, nilB⟩) 36) := by rw [← hWE]; exact RD.out.row _ _ rfl
      have GE : Hid (Has wE w.heap.size 36 Upd.zero.v 36) := by rw [← hWE]; exact GD.out.row_other _ _ (Nat.ne_of_lt HG7.out.2)
      have hCE : CR wE p st4 := by rw [← hWE]; exact hCD.same (setRow_other _ _ _ _ (Nat.ne_of_lt HG7.out.1))
      have gbE : Below w.heap.size w wE := by rw [← hWE]; exact below_setRow gbD (Nat.le_of_lt HG7.out.2) _
      clear hCD hMD gbD gbC hCC HSH hWC c2 f2
      go_wp2_with (first | refine wpList_storeUH rfl _ _ rfl rfl G6 ⟨1, I, Am, fun _ => 0, nilB⟩ Hh rfl rfl RD.out ?_ | fail)
      try rw [hWE]
      clear hWE
      refine (Cu.rErr p _ _ hCE).mono ?_
      rintro e wE ⟨rfl, rfl⟩
      cases e2 : (st4.2 == 2) with
      | true =>
        go_wp2_with (first | refine wpList_buildZ rfl rfl ?_ | refine wpList_storeU rfl _ _ rfl rfl w.heap.size Upd.zero rfl rfl _ GE.out ?_)
        exact bodyPost_ret (resU3 _ w.heap.size _ _ (.int .i64 0) (.int .i64 2) 2 3 4 (GE.out.row _ Upd.zero.v rfl) rfl rfl rfl _ rfl) rfl ⟨by rw [HXX.out]; unfold readEnd; simp [e2], below_setRow gbE (Nat.le_refl _) _⟩
      | false =>
        go_wp2_with fail
        refine (Cu.rErr p _ _ hCE).mono ?_
        rintro e wE2 ⟨rfl, rfl⟩
        cases e0 : (st4.2 == 0) with
        | false =>
          have e0n : (st4.2 != 0) = true := by simp [bne, e0]
          go_wp2_with (first | refine wpList_buildZ rfl rfl ?_ | refine wpList_storeU rfl _ _ rfl rfl w.heap.size Upd.zero rfl rfl _ GE.out ?_)
          exact bodyPost_ret (resU3 _ w.heap.size _ _ (.int .i64 0) (.int .i64 120) 2 3 4 (GE.out.row _ Upd.zero.v rfl) rfl rfl rfl _ rfl) rfl ⟨by rw [HXX.out]; unfold readEnd; simp [e2, e0], below_setRow gbE (Nat.le_refl _) _⟩
        | true =>
          have e0n : (st4.2 != 0) = false := by simp [bne, e0]
          have HVV := hide (fun w : World => valid_any ⟨1, I, Am, Hh, nilB⟩ w)
          go_wp2_with (first | refine wpW_load_at 36 _ rfl (G6) (0) (by rfl) (by rfl) _ 36 _ (RE.out.at_ 0 (by omega) (fun i hi => by rw [Nat.zero_add])) Tryz.underlying36 rfl infoU ?_ | fail)
          refine (HVV.out _).mono ?_
          rintro e wF ⟨rfl, hbF⟩
          have GF := hide (GE.out.below hbF GE.out.lt)
          have RF := hide (RE.out.below hbF RE.out.lt)
          have hCF := hCE.below hbF
          have gbF := gbE.trans (hbF.mono gbE.size)
          clear hbF HVV
          cases hv : validB ⟨1, I, Am, Hh, nilB⟩ with
          | false =>
            go_wp2_with (first | refine wpList_buildZ rfl rfl ?_ | refine wpList_storeU rfl _ _ rfl rfl w.heap.size Upd.zero rfl rfl _ GF.out ?_)
            exact bodyPost_ret (resU3 _ w.heap.size _ _ (.int .i64 0) (.int .i64 120) 2 3 4 (GF.out.row _ Upd.zero.v rfl) rfl rfl rfl _ rfl) rfl ⟨by rw [HXX.out]; unfold readEnd; simp [e2, e0, hv], below_setRow gbF (Nat.le_refl _) _⟩
          | true =>
            go_wp2
            refine wp_region_noPanic ?_
            refine wp_region_held_drew (S := fun wx => Has wx G6 36 (Upd.v ⟨1, I, Am, Hh, nilB⟩) 36 ∧ CR wx p st4 ∧ (∃ f, Has wx w.heap.size 36 f 36) ∧ Below w.heap.size w wx) (by kernel_rfl) (⟨RF.out, hCF, ⟨_, GF.out⟩, gbF.drew⟩) (fun hHeld => ?_)
            refine Cu.takeH 0 (some 64) (.agg (tabv (Upd.v ⟨1, I, Am, Hh, nilB⟩) 36)) rfl rfl (by kernel_rfl) (by kernel_rfl) (by kernel_rfl) (fun _ _ _ h => h) (by rfl) (fun w hw => run_load_at w 36 _ rfl G6 0 (by rfl) _ 36 _ (hw.1.at_ 0 (by omega) (fun i hi => by rw [Nat.zero_add])) Tryz.underlying36 rfl infoU) hHeld ?_
            simp only [Act.put, List.setIfInBounds_toArray, List.set_cons_zero, List.set_cons_succ]
            refine Cu.takeH 1 (some 65) (.string b) rfl rfl (by kernel_rfl) (by kernel_rfl) (by kernel_rfl) (fun _ _ _ h => h) (by rfl) (fun w hw => by first | rfl | (go_simp; done) | (go_simp; rfl)) hHeld ?_
            simp only [Act.put, List.setIfInBounds_toArray, List.set_cons_zero, List.set_cons_succ]
            refine Cu.takeH 2 (some 66) (.int .i64 (b.size : Int)) rfl rfl (by kernel_rfl) (by kernel_rfl) (by kernel_rfl) (fun _ _ _ h => h) (by rfl) (fun w hw => by first | rfl | (go_simp; done) | (go_simp; rfl)) hHeld ?_
            simp only [Act.put, List.setIfInBounds_toArray, List.set_cons_zero, List.set_cons_succ]
            refine Cu.takeH 3 (some 67) (.pointer (some ⟨p, 0, none⟩)) rfl rfl (by kernel_rfl) (by kernel_rfl) (by kernel_rfl) (fun _ _ _ h => h) (by rfl) (fun w hw => by first | rfl | (go_simp; done) | (go_simp; rfl)) hHeld ?_
            simp only [Act.put, List.setIfInBounds_toArray, List.set_cons_zero, List.set_cons_succ]
            refine wpAnyH_ready (rs := [4]) (by kernel_rfl) (by simp) (AllReadyH.cons rfl (fun K hK => ?_) AllReadyH.nil)
            rw [if_pos (by rfl)]
            go_simp
            refine (Cu.rRest p st4 _ hHeld.2.1 (Nat.le_trans Z4.out HB.out)).mono ?_
            rintro e wH ⟨rfl, hbH⟩
            try go_wp2_with fail
            refine hK.out _ _ (⟨hHeld.1.below hbH hHeld.1.lt, hHeld.2.1.below hbH, ⟨_, GF.out.below (w := wF.drew) hbH GF.out.lt⟩, hHeld.2.2.2.trans (hbH.mono hHeld.2.2.2.size)⟩) (fun hH => ?_)
            clear hK K hHeld
            have hHeld := hH
            clear hH
            have GH := GF.out.below (w := wF.drew) hbH GF.out.lt
            refine Cu.takeH 5 (some 69) (.int .i64 (st4.1.size : Int)) rfl rfl (by kernel_rfl) (by kernel_rfl) (by kernel_rfl) (fun _ _ _ h => h) (by rfl) (fun w hw => by first | rfl | (go_simp; done) | (go_simp; rfl)) hHeld ?_
            simp only [Act.put, List.setIfInBounds_toArray, List.set_cons_zero, List.set_cons_succ]
            refine Cu.takeH 6 (some 70) (.int .i64 ((b.size : Int) - (st4.1.size : Int))) rfl rfl (by kernel_rfl) (by kernel_rfl) (by kernel_rfl) (fun _ _ _ h => h) (by rfl) (fun w hw => by have z1 := Z4.out; have z2 := HB.out; have z3 : IntKind.i64.wrap ((b.size : Int) - (st4.1.size : Int)) = (b.size : Int) - (st4.1.size : Int) := (by rw [IntKind.wrap_i64]; omega); first | rfl | (go_simp; done) | (go_simp; rfl)) hHeld ?_
            simp only [Act.put, List.setIfInBounds_toArray, List.set_cons_zero, List.set_cons_succ]
            refine wpAnyH_ready (rs := [7]) (by kernel_rfl) (by simp) (AllReadyH.cons rfl (fun K hK => ?_) AllReadyH.nil)
            rw [if_pos (by rfl)]
            refine wp_storeU _ _ rfl rfl w.heap.size ⟨1, I, Am, Hh, nilB⟩ rfl rfl _ GH ?_
            refine hK.out _ _ ⟨hHeld.1.row_other _ _ (Nat.ne_of_gt HG7.out.2), hHeld.2.1.same (setRow_other _ _ _ _ (Nat.ne_of_gt HP.out)), ⟨_, GH.row _ _ rfl⟩, below_setRow hHeld.2.2.2 (Nat.le_refl _) _⟩ (fun hH => ?_)
            clear hK K hHeld
            have hHeld := hH
            refine Cu.takeH 8 (some 3) (.int .i64 ((b.size : Int) - (st4.1.size : Int))) rfl rfl (by kernel_rfl) (by kernel_rfl) (by kernel_rfl) (fun _ _ _ h => h) (by rfl) (fun w hw => by first | rfl | (go_simp; done) | (go_simp; rfl)) hHeld ?_
            simp only [Act.put, List.setIfInBounds_toArray, List.set_cons_zero, List.set_cons_succ]
            refine Cu.takeH 9 (some 4) (.int .i64 0) rfl rfl (by kernel_rfl) (by kernel_rfl) (by kernel_rfl) (fun _ _ _ h => h) (by rfl) (fun w hw => by first | rfl | (go_simp; done) | (go_simp; rfl)) hHeld ?_
            simp only [Act.put, List.setIfInBounds_toArray, List.set_cons_zero, List.set_cons_succ]
            refine ⟨by kernel_rfl, ?_⟩
            refine NoPanic.normal ?_
            try go_wp2
            exact bodyPost_ret (resU3 _ w.heap.size _ _ (.int .i64 ((b.size : Int) - (st4.1.size : Int))) (.int .i64 0) 2 3 4 (GH.row _ _ rfl) rfl rfl rfl _ rfl) rfl ⟨by rw [HXX.out]; unfold readEnd; simp [e2, e0, hv], hH.2.2.2⟩
    · have hk1 : (K == 1) = false := by simpa using k1
      have hk1n : (K != 1) = true := by simp [bne, hk1]
      by_cases k2 : K = 2
      · subst k2
        obtain ⟨Hh, hHh⟩ : ∃ h, hOf (takeA 32 st2) = h := ⟨_, rfl⟩
        obtain ⟨st4, hs4⟩ : ∃ st, takeS 32 st2 = st := ⟨_, rfl⟩
        have HXX : Hid (X = readEnd b ⟨2, I, 0, Hh, nilB⟩ st4) := HX.out.symm.trans (by unfold readK; rw [if_pos e1, if_neg (by omega), if_pos rfl, hHh, hs4])
        have Z4 : Hid (st4.1.size ≤ b.size) := by
          show _ ≤ _
          rw [← hs4]
          exact Nat.le_trans (Cu.takeS_size 32 _) Z2.out
        have HSH := fun (w : World) (h : CR w p st2) => Cu.rHash p st2 w h
        simp only [hHh, hs4] at HSH
        have HSH := hide HSH
        clear hHh hs4
        go_wp2_with (first | refine wpW_load_at 36 _ rfl (G6) (0) (by rfl) (by rfl) _ 36 _ (R7.out.at_ 0 (by omega) (fun i hi => by rw [Nat.zero_add])) Tryz.underlying36 rfl infoU ?_ | fail)
        refine (removes_any _ _).mono ?_
        rintro e w8 ⟨rfl, hb8⟩
        rw [show remB ⟨2, 0, 0, fun _ => 0, nilB⟩ = true from rfl]
        have hC7 := hC7.below hb8
        have G7 := hide (G7.out.below hb8 G7.out.lt)
        have R7 := hide (R7.out.below hb8 R7.out.lt)
        have gb7 := gb7.trans (hb8.mono gb7.size)
        clear hb8 c0
        have c0 : True := trivial
        go_wp2_with fail
        refine (U16.out p _ hC7).mono ?_
        rintro e w9 ⟨rfl, hC9, hM9⟩
        have G9 := hide (G7.out.mr hM9 (Nat.ne_of_lt HP.out))
        have R9 := hide (R7.out.mr hM9 (Nat.ne_of_gt HG7.out.1))
        have gb9 := gb7.trans (hM9.below (Nat.le_of_lt HP.out) gb7.size)
        have c1 : w9.cell? ⟨G6, 1, none⟩ = some (.int .i64 0) := R9.out.cell 1 (by omega)
        have f1 := R9.out.frozen 1
        obtain ⟨wA, hWA⟩ : ∃ x, w9.setCell ⟨G6, 1, none⟩ (.int .i64 I) = x := ⟨_, rfl⟩
        have RA : Hid (Has wA G6 36 (Upd.v ⟨2, I, 0, fun _ => 0, nilB⟩) 36) := by rw [← hWA]; exact R9.out.setId I
        have GA : Hid (Has wA w.heap.size 36 Upd.zero.v 36) := by rw [← hWA]; exact G9.out.other _ _ (Nat.ne_of_lt HG7.out.2)
        have hCA : CR wA p st2 := by rw [← hWA]; exact hC9.same (Below.heap_setCell w9 ⟨G6, 1, none⟩ _ p (Nat.ne_of_lt HG7.out.1))
        have gbA : Below w.heap.size w wA := by rw [← hWA]; exact gb9.setCell (Nat.le_of_lt HG7.out.2) _
        have d0 : wA.cell? ⟨G6, 0, none⟩ = some (.int .i64 2) := RA.out.cell 0 (by omega)
        clear hC9 hM9 gb9 gb7 hC7 U16 c0
        go_wp2_with (first | refine Cu.wpList_conv rfl _ _ _ rfl .u16 .i64 I I (by rfl) (KI.out _) ?_ | fail)
        refine (HSH.out _ hCA).mono ?_
        rintro e wD ⟨rfl, hCD, hMD⟩
        have GD := hide (GA.out.mr hMD (Nat.ne_of_lt HP.out))
        have RD := hide (RA.out.mr hMD (Nat.ne_of_gt HG7.out.1))
        have gbD := gbA.trans (hMD.below (Nat.le_of_lt HP.out) gbA.size)
        obtain ⟨wE, hWE⟩ : ∃ x, wD.setRow G6 (tabv (Upd.v ⟨2, I, 0, Hh, nilB⟩) 36) = x := ⟨_, rfl⟩
        have RE : Hid (Has wE G6 36 (Upd.v ⟨2, I, 0, Hh, nilB⟩) 36) := by rw [← hWE]; exact RD.out.row _ _ rfl
        have GE : Hid (Has wE w.heap.size 36 Upd.zero.v 36) := by rw [← hWE]; exact GD.out.row_other _ _ (Nat.ne_of_lt HG7.out.2)
        have hCE : CR wE p st4 := by rw [← hWE]; exact hCD.same (setRow_other _ _ _ _ (Nat.ne_of_lt HG7.out.1))
        have gbE : Below w.heap.size w wE := by rw [← hWE]; exact below_setRow gbD (Nat.le_of_lt HG7.out.2) _
        clear hCD hMD gbD gbA hCA HSH hWA c1 f1 d0
        go_wp2_with (first | refine wpList_storeUH rfl _ _ rfl rfl G6 ⟨2, I, 0, fun _ => 0, nilB⟩ Hh rfl rfl RD.out ?_ | fail)
        try rw [hWE]
        clear hWE
        refine (Cu.rErr p _ _ hCE).mono ?_
        rintro e wE ⟨rfl, rfl⟩
        cases e2 : (st4.2 == 2) with
        | true =>
          go_wp2_with (first | refine wpList_buildZ rfl rfl ?_ | refine wpList_storeU rfl _ _ rfl rfl w.heap.size Upd.zero rfl rfl _ GE.out ?_)
          exact bodyPost_ret (resU3 _ w.heap.size _ _ (.int .i64 0) (.int .i64 2) 2 3 4 (GE.out.row _ Upd.zero.v rfl) rfl rfl rfl _ rfl) rfl ⟨by rw [HXX.out]; unfold readEnd; simp [e2], below_setRow gbE (Nat.le_refl _) _⟩
        | false =>
          go_wp2_with fail
          refine (Cu.rErr p _ _ hCE).mono ?_
          rintro e wE2 ⟨rfl, rfl⟩
          cases e0 : (st4.2 == 0) with
          | false =>
            have e0n : (st4.2 != 0) = true := by simp [bne, e0]
            go_wp2_with (first | refine wpList_buildZ rfl rfl ?_ | refine wpList_storeU rfl _ _ rfl rfl w.heap.size Upd.zero rfl rfl _ GE.out ?_)
            exact bodyPost_ret (resU3 _ w.heap.size _ _ (.int .i64 0) (.int .i64 120) 2 3 4 (GE.out.row _ Upd.zero.v rfl) rfl rfl rfl _ rfl) rfl ⟨by rw [HXX.out]; unfold readEnd; simp [e2, e0], below_setRow gbE (Nat.le_refl _) _⟩
          | true =>
            have e0n : (st4.2 != 0) = false := by simp [bne, e0]
            have HVV := hide (fun w : World => valid_any ⟨2, I, 0, Hh, nilB⟩ w)
            go_wp2_with (first | refine wpW_load_at 36 _ rfl (G6) (0) (by rfl) (by rfl) _ 36 _ (RE.out.at_ 0 (by omega) (fun i hi => by rw [Nat.zero_add])) Tryz.underlying36 rfl infoU ?_ | fail)
            refine (HVV.out _).mono ?_
            rintro e wF ⟨rfl, hbF⟩
            have GF := hide (GE.out.below hbF GE.out.lt)
            have RF := hide (RE.out.below hbF RE.out.lt)
            have hCF := hCE.below hbF
            have gbF := gbE.trans (hbF.mono gbE.size)
            clear hbF HVV
            cases hv : validB ⟨2, I, 0, Hh, nilB⟩ with
            | false =>
              go_wp2_with (first | refine wpList_buildZ rfl rfl ?_ | refine wpList_storeU rfl _ _ rfl rfl w.heap.size Upd.zero rfl rfl _ GF.out ?_)
              exact bodyPost_ret (resU3 _ w.heap.size _ _ (.int .i64 0) (.int .i64 120) 2 3 4 (GF.out.row _ Upd.zero.v rfl) rfl rfl rfl _ rfl) rfl ⟨by rw [HXX.out]; unfold readEnd; simp [e2, e0, hv], below_setRow gbF (Nat.le_refl _) _⟩
            | true =>
              go_wp2
              refine wp_region_noPanic ?_
              refine wp_region_held_drew (S := fun wx => Has wx G6 36 (Upd.v ⟨2, I, 0, Hh, nilB⟩) 36 ∧ CR wx p st4 ∧ (∃ f, Has wx w.heap.size 36 f 36) ∧ Below w.heap.size w wx) (by kernel_rfl) (⟨RF.out, hCF, ⟨_, GF.out⟩, gbF.drew⟩) (fun hHeld => ?_)
              refine Cu.takeH 0 (some 64) (.agg (tabv (Upd.v ⟨2, I, 0, Hh, nilB⟩) 36)) rfl rfl (by kernel_rfl) (by kernel_rfl) (by kernel_rfl) (fun _ _ _ h => h) (by rfl) (fun w hw => run_load_at w 36 _ rfl G6 0 (by rfl) _ 36 _ (hw.1.at_ 0 (by omega) (fun i hi => by rw [Nat.zero_add])) Tryz.underlying36 rfl infoU) hHeld ?_
              simp only [Act.put, List.setIfInBounds_toArray, List.set_cons_zero, List.set_cons_succ]
              refine Cu.takeH 1 (some 65) (.string b) rfl rfl (by kernel_rfl) (by kernel_rfl) (by kernel_rfl) (fun _ _ _ h => h) (by rfl) (fun w hw => by first | rfl | (go_simp; done) | (go_simp; rfl)) hHeld ?_
              simp only [Act.put, List.setIfInBounds_toArray, List.set_cons_zero, List.set_cons_succ]
              refine Cu.takeH 2 (some 66) (.int .i64 (b.size : Int)) rfl rfl (by kernel_rfl) (by kernel_rfl) (by kernel_rfl) (fun _ _ _ h => h) (by rfl) (fun w hw => by first | rfl | (go_simp; done) | (go_simp; rfl)) hHeld ?_
              simp only [Act.put, List.setIfInBounds_toArray, List.set_cons_zero, List.set_cons_succ]
              refine Cu.takeH 3 (some 67) (.pointer (some ⟨p, 0, none⟩)) rfl rfl (by kernel_rfl) (by kernel_rfl) (by kernel_rfl) (fun _ _ _ h => h) (by rfl) (fun w hw => by first | rfl | (go_simp; done) | (go_simp; rfl)) hHeld ?_
              simp only [Act.put, List.setIfInBounds_toArray, List.set_cons_zero, List.set_cons_succ]
              refine wpAnyH_ready (rs := [4]) (by kernel_rfl) (by simp) (AllReadyH.cons rfl (fun K hK => ?_) AllReadyH.nil)
              rw [if_pos (by rfl)]
              go_simp
              refine (Cu.rRest p st4 _ hHeld.2.1 (Nat.le_trans Z4.out HB.out)).mono ?_
              rintro e wH ⟨rfl, hbH⟩
              try go_wp2_with fail
              refine hK.out _ _ (⟨hHeld.1.below hbH hHeld.1.lt, hHeld.2.1.below hbH, ⟨_, GF.out.below (w := wF.drew) hbH GF.out.lt⟩, hHeld.2.2.2.trans (hbH.mono hHeld.2.2.2.size)⟩) (fun hH => ?_)
              clear hK K hHeld
              have hHeld := hH
              clear hH
              have GH := GF.out.below (w := wF.drew) hbH GF.out.lt
              refine Cu.takeH 5 (some 69) (.int .i64 (st4.1.size : Int)) rfl rfl (by kernel_rfl) (by kernel_rfl) (by kernel_rfl) (fun _ _ _ h => h) (by rfl) (fun w hw => by first | rfl | (go_simp; done) | (go_simp; rfl)) hHeld ?_
              simp only [Act.put, List.setIfInBounds_toArray, List.set_cons_zero, List.set_cons_succ]
              refine Cu.takeH 6 (some 70) (.int .i64 ((b.size : Int) - (st4.1.size : Int))) rfl rfl (by kernel_rfl) (by kernel_rfl) (by kernel_rfl) (fun _ _ _ h => h) (by rfl) (fun w hw => by have z1 := Z4.out; have z2 := HB.out; have z3 : IntKind.i64.wrap ((b.size : Int) - (st4.1.size : Int)) = (b.size : Int) - (st4.1.size : Int) := (by rw [IntKind.wrap_i64]; omega); first | rfl | (go_simp; done) | (go_simp; rfl)) hHeld ?_
              simp only [Act.put, List.setIfInBounds_toArray, List.set_cons_zero, List.set_cons_succ]
              refine wpAnyH_ready (rs := [7]) (by kernel_rfl) (by simp) (AllReadyH.cons rfl (fun K hK => ?_) AllReadyH.nil)
              rw [if_pos (by rfl)]
              refine wp_storeU _ _ rfl rfl w.heap.size ⟨2, I, 0, Hh, nilB⟩ rfl rfl _ GH ?_
              refine hK.out _ _ ⟨hHeld.1.row_other _ _ (Nat.ne_of_gt HG7.out.2), hHeld.2.1.same (setRow_other _ _ _ _ (Nat.ne_of_gt HP.out)), ⟨_, GH.row _ _ rfl⟩, below_setRow hHeld.2.2.2 (Nat.le_refl _) _⟩ (fun hH => ?_)
              clear hK K hHeld
              have hHeld := hH
              refine Cu.takeH 8 (some 3) (.int .i64 ((b.size : Int) - (st4.1.size : Int))) rfl rfl (by kernel_rfl) (by kernel_rfl) (by kernel_rfl) (fun _ _ _ h => h) (by rfl) (fun w hw => by first | rfl | (go_simp; done) | (go_simp; rfl)) hHeld ?_
              simp only [Act.put, List.setIfInBounds_toArray, List.set_cons_zero, List.set_cons_succ]
              refine Cu.takeH 9 (some 4) (.int .i64 0) rfl rfl (by kernel_rfl) (by kernel_rfl) (by kernel_rfl) (fun _ _ _ h => h) (by rfl) (fun w hw => by first | rfl | (go_simp; done) | (go_simp; rfl)) hHeld ?_
              simp only [Act.put, List.setIfInBounds_toArray, List.set_cons_zero, List.set_cons_succ]
              refine ⟨by kernel_rfl, ?_⟩
              refine NoPanic.normal ?_
              try go_wp2
              exact bodyPost_ret (resU3 _ w.heap.size _ _ (.int .i64 ((b.size : Int) - (st4.1.size : Int))) (.int .i64 0) 2 3 4 (GH.row _ _ rfl) rfl rfl rfl _ rfl) rfl ⟨by rw [HXX.out]; unfold readEnd; simp [e2, e0, hv], hH.2.2.2⟩
      · by_cases k3 : K = 3
        · subst k3
          obtain ⟨Nt, hNt⟩ : ∃ h, textA 64 st2 = h := ⟨_, rfl⟩
          obtain ⟨st4, hs4⟩ : ∃ st, textS 64 st2 = st := ⟨_, rfl⟩
          have HXX : Hid (X = readEnd b ⟨3, I, 0, fun _ => 0, Nt⟩ st4) := HX.out.symm.trans (by unfold readK; rw [if_pos e1, if_neg (by omega), if_neg (by omega), if_pos rfl, hNt, hs4])
          have Z4 : Hid (st4.1.size ≤ b.size) := by
            show _ ≤ _
            rw [← hs4]
            exact Nat.le_trans (Nat.le_trans (Cu.takeS_size _ _) (Cu.textMid_size 64 st2)) Z2.out
          have TX := fun (w : World) (h : CR w p st2) => Cu.rText 64 p st2 w h (Nat.le_trans Z2.out HB.out)
          simp only [hNt, hs4] at TX
          have TX := hide TX
          clear hNt hs4
          go_wp2_with (first | refine wpW_load_at 36 _ rfl (G6) (0) (by rfl) (by rfl) _ 36 _ (R7.out.at_ 0 (by omega) (fun i hi => by rw [Nat.zero_add])) Tryz.underlying36 rfl infoU ?_ | fail)
          refine (removes_any _ _).mono ?_
          rintro e w8 ⟨rfl, hb8⟩
          rw [show remB ⟨3, 0, 0, fun _ => 0, nilB⟩ = true from rfl]
          have hC7 := hC7.below hb8
          have G7 := hide (G7.out.below hb8 G7.out.lt)
          have R7 := hide (R7.out.below hb8 R7.out.lt)
          have gb7 := gb7.trans (hb8.mono gb7.size)
          clear hb8 c0
          have c0 : True := trivial
          go_wp2_with fail
          refine (U16.out p _ hC7).mono ?_
          rintro e w9 ⟨rfl, hC9, hM9⟩
          have G9 := hide (G7.out.mr hM9 (Nat.ne_of_lt HP.out))
          have R9 := hide (R7.out.mr hM9 (Nat.ne_of_gt HG7.out.1))
          have gb9 := gb7.trans (hM9.below (Nat.le_of_lt HP.out) gb7.size)
          have c1 : w9.cell? ⟨G6, 1, none⟩ = some (.int .i64 0) := R9.out.cell 1 (by omega)
          have f1 := R9.out.frozen 1
          obtain ⟨wA, hWA⟩ : ∃ x, w9.setCell ⟨G6, 1, none⟩ (.int .i64 I) = x := ⟨_, rfl⟩
          have RA : Hid (Has wA G6 36 (Upd.v ⟨3, I, 0, fun _ => 0, nilB⟩) 36) := by rw [← hWA]; exact R9.out.setId I
          have GA : Hid (Has wA w.heap.size 36 Upd.zero.v 36) := by rw [← hWA]; exact G9.out.other _ _ (Nat.ne_of_lt HG7.out.2)
          have hCA : CR wA p st2 := by rw [← hWA]; exact hC9.same (Below.heap_setCell w9 ⟨G6, 1, none⟩ _ p (Nat.ne_of_lt HG7.out.1))
          have gbA : Below w.heap.size w wA := by rw [← hWA]; exact gb9.setCell (Nat.le_of_lt HG7.out.2) _
          have d0 : wA.cell? ⟨G6, 0, none⟩ = some (.int .i64 3) := RA.out.cell 0 (by omega)
          clear hC9 hM9 gb9 gb7 hC7 U16 c0
          go_wp2_with (first | refine Cu.wpList_conv rfl _ _ _ rfl .u16 .i64 I I (by rfl) (KI.out _) ?_ | fail)
          refine (TX.out _ hCA).mono ?_
          rintro e wD ⟨rfl, hCD, hMD⟩
          have GD := hide (GA.out.mr hMD (Nat.ne_of_lt HP.out))
          have RD := hide (RA.out.mr hMD (Nat.ne_of_gt HG7.out.1))
          have gbD := gbA.trans (hMD.below (Nat.le_of_lt HP.out) gbA.size)
          have c3 : wD.cell? ⟨G6, 35, none⟩ = some (.string nilB) := RD.out.cell 35 (by omega)
          have f3 := RD.out.frozen 35
          obtain ⟨wE, hWE⟩ : ∃ x, wD.setCell ⟨G6, 35, none⟩ (.string Nt) = x := ⟨_, rfl⟩
          have RE : Hid (Has wE G6 36 (Upd.v ⟨3, I, 0, fun _ => 0, Nt⟩) 36) := by rw [← hWE]; exact RD.out.setNote Nt
          have GE : Hid (Has wE w.heap.size 36 Upd.zero.v 36) := by rw [← hWE]; exact GD.out.other _ _ (Nat.ne_of_lt HG7.out.2)
          have hCE : CR wE p st4 := by rw [← hWE]; exact hCD.same (Below.heap_setCell wD ⟨G6, 35, none⟩ _ p (Nat.ne_of_lt HG7.out.1))
          have gbE : Below w.heap.size w wE := by rw [← hWE]; exact gbD.setCell (Nat.le_of_lt HG7.out.2) _
          clear hCD hMD gbD gbA hCA TX hWA c1 f1 d0
          go_wp2_with fail
          clear hWE c3 f3
          refine (Cu.rErr p _ _ hCE).mono ?_
          rintro e wE ⟨rfl, rfl⟩
          cases e2 : (st4.2 == 2) with
          | true =>
            go_wp2_with (first | refine wpList_buildZ rfl rfl ?_ | refine wpList_storeU rfl _ _ rfl rfl w.heap.size Upd.zero rfl rfl _ GE.out ?_)
            exact bodyPost_ret (resU3 _ w.heap.size _ _ (.int .i64 0) (.int .i64 2) 2 3 4 (GE.out.row _ Upd.zero.v rfl) rfl rfl rfl _ rfl) rfl ⟨by rw [HXX.out]; unfold readEnd; simp [e2], below_setRow gbE (Nat.le_refl _) _⟩
          | false =>
            go_wp2_with fail
            refine (Cu.rErr p _ _ hCE).mono ?_
            rintro e wE2 ⟨rfl, rfl⟩
            cases e0 : (st4.2 == 0) with
            | false =>
              have e0n : (st4.2 != 0) = true := by simp [bne, e0]
              go_wp2_with (first | refine wpList_buildZ rfl rfl ?_ | refine wpList_storeU rfl _ _ rfl rfl w.heap.size Upd.zero rfl rfl _ GE.out ?_)
              exact bodyPost_ret (resU3 _ w.heap.size _ _ (.int .i64 0) (.int .i64 120) 2 3 4 (GE.out.row _ Upd.zero.v rfl) rfl rfl rfl _ rfl) rfl ⟨by rw [HXX.out]; unfold readEnd; simp [e2, e0], below_setRow gbE (Nat.le_refl _) _⟩
            | true =>
              have e0n : (st4.2 != 0) = false := by simp [bne, e0]
              have HVV := hide (fun w : World => valid_any ⟨3, I, 0, fun _ => 0, Nt⟩ w)
              go_wp2_with (first | refine wpW_load_at 36 _ rfl (G6) (0) (by rfl) (by rfl) _ 36 _ (RE.out.at_ 0 (by omega) (fun i hi => by rw [Nat.zero_add])) Tryz.underlying36 rfl infoU ?_ | fail)
              refine (HVV.out _).mono ?_
              rintro e wF ⟨rfl, hbF⟩
              have GF := hide (GE.out.below hbF GE.out.lt)
              have RF := hide (RE.out.below hbF RE.out.lt)
              have hCF := hCE.below hbF
              have gbF := gbE.trans (hbF.mono gbE.size)
              clear hbF HVV
              cases hv : validB ⟨3, I, 0, fun _ => 0, Nt⟩ with
              | false =>
                go_wp2_with (first | refine wpList_buildZ rfl rfl ?_ | refine wpList_storeU rfl _ _ rfl rfl w.heap.size Upd.zero rfl rfl _ GF.out ?_)
                exact bodyPost_ret (resU3 _ w.heap.size _ _ (.int .i64 0) (.int .i64 120) 2 3 4 (GF.out.row _ Upd.zero.v rfl) rfl rfl rfl _ rfl) rfl ⟨by rw [HXX.out]; unfold readEnd; simp [e2, e0, hv], below_setRow gbF (Nat.le_refl _) _⟩
              | true =>
                go_wp2
                refine wp_region_noPanic ?_
                refine wp_region_held_drew (S := fun wx => Has wx G6 36 (Upd.v ⟨3, I, 0, fun _ => 0, Nt⟩) 36 ∧ CR wx p st4 ∧ (∃ f, Has wx w.heap.size 36 f 36) ∧ Below w.heap.size w wx) (by kernel_rfl) (⟨RF.out, hCF, ⟨_, GF.out⟩, gbF.drew⟩) (fun hHeld => ?_)
                refine Cu.takeH 0 (some 64) (.agg (tabv (Upd.v ⟨3, I, 0, fun _ => 0, Nt⟩) 36)) rfl rfl (by kernel_rfl) (by kernel_rfl) (by kernel_rfl) (fun _ _ _ h => h) (by rfl) (fun w hw => run_load_at w 36 _ rfl G6 0 (by rfl) _ 36 _ (hw.1.at_ 0 (by omega) (fun i hi => by rw [Nat.zero_add])) Tryz.underlying36 rfl infoU) hHeld ?_
                simp only [Act.put, List.setIfInBounds_toArray, List.set_cons_zero, List.set_cons_succ]
                refine Cu.takeH 1 (some 65) (.string b) rfl rfl (by kernel_rfl) (by kernel_rfl) (by kernel_rfl) (fun _ _ _ h => h) (by rfl) (fun w hw => by first | rfl | (go_simp; done) | (go_simp; rfl)) hHeld ?_
                simp only [Act.put, List.setIfInBounds_toArray, List.set_cons_zero, List.set_cons_succ]
                refine Cu.takeH 2 (some 66) (.int .i64 (b.size : Int)) rfl rfl (by kernel_rfl) (by kernel_rfl) (by kernel_rfl) (fun _ _ _ h => h) (by rfl) (fun w hw => by first | rfl | (go_simp; done) | (go_simp; rfl)) hHeld ?_
                simp only [Act.put, List.setIfInBounds_toArray, List.set_cons_zero, List.set_cons_succ]
                refine Cu.takeH 3 (some 67) (.pointer (some ⟨p, 0, none⟩)) rfl rfl (by kernel_rfl) (by kernel_rfl) (by kernel_rfl) (fun _ _ _ h => h) (by rfl) (fun w hw => by first | rfl | (go_simp; done) | (go_simp; rfl)) hHeld ?_
                simp only [Act.put, List.setIfInBounds_toArray, List.set_cons_zero, List.set_cons_succ]
                refine wpAnyH_ready (rs := [4]) (by kernel_rfl) (by simp) (AllReadyH.cons rfl (fun K hK => ?_) AllReadyH.nil)
                rw [if_pos (by rfl)]
                go_simp
                refine (Cu.rRest p st4 _ hHeld.2.1 (Nat.le_trans Z4.out HB.out)).mono ?_
                rintro e wH ⟨rfl, hbH⟩
                try go_wp2_with fail
                refine hK.out _ _ (⟨hHeld.1.below hbH hHeld.1.lt, hHeld.2.1.below hbH, ⟨_, GF.out.below (w := wF.drew) hbH GF.out.lt⟩, hHeld.2.2.2.trans (hbH.mono hHeld.2.2.2.size)⟩) (fun hH => ?_)
                clear hK K hHeld
                have hHeld := hH
                clear hH
                have GH := GF.out.below (w := wF.drew) hbH GF.out.lt
                refine Cu.takeH 5 (some 69) (.int .i64 (st4.1.size : Int)) rfl rfl (by kernel_rfl) (by kernel_rfl) (by kernel_rfl) (fun _ _ _ h => h) (by rfl) (fun w hw => by first | rfl | (go_simp; done) | (go_simp; rfl)) hHeld ?_
                simp only [Act.put, List.setIfInBounds_toArray, List.set_cons_zero, List.set_cons_succ]
                refine Cu.takeH 6 (some 70) (.int .i64 ((b.size : Int) - (st4.1.size : Int))) rfl rfl (by kernel_rfl) (by kernel_rfl) (by kernel_rfl) (fun _ _ _ h => h) (by rfl) (fun w hw => by have z1 := Z4.out; have z2 := HB.out; have z3 : IntKind.i64.wrap ((b.size : Int) - (st4.1.size : Int)) = (b.size : Int) - (st4.1.size : Int) := (by rw [IntKind.wrap_i64]; omega); first | rfl | (go_simp; done) | (go_simp; rfl)) hHeld ?_
                simp only [Act.put, List.setIfInBounds_toArray, List.set_cons_zero, List.set_cons_succ]
                refine wpAnyH_ready (rs := [7]) (by kernel_rfl) (by simp) (AllReadyH.cons rfl (fun K hK => ?_) AllReadyH.nil)
                rw [if_pos (by rfl)]
                refine wp_storeU _ _ rfl rfl w.heap.size ⟨3, I, 0, fun _ => 0, Nt⟩ rfl rfl _ GH ?_
                refine hK.out _ _ ⟨hHeld.1.row_other _ _ (Nat.ne_of_gt HG7.out.2), hHeld.2.1.same (setRow_other _ _ _ _ (Nat.ne_of_gt HP.out)), ⟨_, GH.row _ _ rfl⟩, below_setRow hHeld.2.2.2 (Nat.le_refl _) _⟩ (fun hH => ?_)
                clear hK K hHeld
                have hHeld := hH
                refine Cu.takeH 8 (some 3) (.int .i64 ((b.size : Int) - (st4.1.size : Int))) rfl rfl (by kernel_rfl) (by kernel_rfl) (by kernel_rfl) (fun _ _ _ h => h) (by rfl) (fun w hw => by first | rfl | (go_simp; done) | (go_simp; rfl)) hHeld ?_
                simp only [Act.put, List.setIfInBounds_toArray, List.set_cons_zero, List.set_cons_succ]
                refine Cu.takeH 9 (some 4) (.int .i64 0) rfl rfl (by kernel_rfl) (by kernel_rfl) (by kernel_rfl) (fun _ _ _ h => h) (by rfl) (fun w hw => by first | rfl | (go_simp; done) | (go_simp; rfl)) hHeld ?_
                simp only [Act.put, List.setIfInBounds_toArray, List.set_cons_zero, List.set_cons_succ]
                refine ⟨by kernel_rfl, ?_⟩
                refine NoPanic.normal ?_
                try go_wp2
                exact bodyPost_ret (resU3 _ w.heap.size _ _ (.int .i64 ((b.size : Int) - (st4.1.size : Int))) (.int .i64 0) 2 3 4 (GH.row _ _ rfl) rfl rfl rfl _ rfl) rfl ⟨by rw [HXX.out]; unfold readEnd; simp [e2, e0, hv], hH.2.2.2⟩
        · have hX1 : Hid (X = (Upd.zero, 0, 120)) := HX.out.symm.trans (by unfold readK; rw [if_pos e1, if_neg k1, if_neg k2, if_neg k3])
          go_wp2_with (first | refine wpW_load_at 36 _ rfl (G6) (0) (by rfl) (by rfl) _ 36 _ (R7.out.at_ 0 (by omega) (fun i hi => by rw [Nat.zero_add])) Tryz.underlying36 rfl infoU ?_ | fail)
          refine (removes_any _ _).mono ?_
          rintro e w8 ⟨rfl, hb8⟩
          rw [show remB ⟨K, 0, 0, fun _ => 0, nilB⟩ = false by unfold remB; simp [k2, k3]]
          have G8 := hide (G7.out.below hb8 G7.out.lt)
          have gb8 := gb7.trans (hb8.mono gb7.size)
          clear hb8 c0
          go_wp2_with (first | refine wpList_buildZ rfl rfl ?_ | refine wpList_storeU rfl _ _ rfl rfl w.heap.size Upd.zero rfl rfl _ G8.out ?_)
          exact bodyPost_ret (resU3 _ w.heap.size _ _ (.int .i64 0) (.int .i64 120) 2 3 4 (G8.out.row _ Upd.zero.v rfl) rfl rfl rfl _ rfl) rfl ⟨by rw [hX1.out], below_setRow gb8 (Nat.le_refl _) _⟩
end Go.Proofs.YtlohfoggcdaeiaaGreat
