/-
  The document's Text (printed by gen_c11.py).
-/
import Derived.Test.YthcaokiboimibaaCDoc1
import Derived.Test.YthcaokiboimibaaCFirst
import Derived.Test.YthcaokiboimibaaCurWant
namespace Go.Proofs.Ythcaokiboimibaa
open Go.RowKit S
set_option linter.unusedVariables false
set_option linter.unusedSimpArgs false
open Cu (nb be hl ofL Bytes Mv byteV)
theorem bytes_new (w : World) (B : Nat) (c : UInt8) (X : Int) (hX : X = (c.toNat : Int)) (hB : B ≤ w.heap.size) : Bytes (w.alloc (.cells #[.int .u8 X] 5)) B (.slice (some ⟨w.heap.size, 0, none⟩) 1 1) [c] := by
  subst hX
  exact ⟨by simp, .inr ⟨w.heap.size, 1, #[.int .u8 (c.toNat : Int)], rfl, hB, heap_alloc_new w _, Nat.le_refl _, by decide, by rfl, by rfl⟩⟩
theorem mv_below {B : Nat} {w1 wr w' : World} {v v' : Value} {L : List UInt8} (hb : Below B w1 wr) (hB : Bytes wr B v L) (hM : Mv wr v w' v') (hs : B ≤ wr.heap.size) : Below B w1 w' ∧ B ≤ w'.heap.size :=
  ⟨hb.trans (Cu.grown_below hM.gr (fun k hk => hB.block k hk) hs), Nat.le_trans hs hM.gr.size⟩
theorem Has.mv {w w' : World} {g m : Nat} {t : TypeId} {f : Nat → Value} {v v' : Value} (h : Has w g t f m) (hM : Mv w v w' v') (hn : v.ownBlock ≠ some g) : Has w' g t f m ∧ v'.ownBlock ≠ some g :=
  ⟨h.same (hM.gr.block g h.lt (fun e => hn e.symm)), fun e => (hM.own g e).elim hn (fun hh => by have := h.lt; omega)⟩
theorem src_pen {w : World} {g : Nat} {p : Pen} (hH : Has w g 39 p.v 35) : Src Try.prog 1 62 (.slice (some ⟨g, 3, none⟩) 32 32) (hl p.hash).length ((hl p.hash).map byteV) w := by
  rw [Cu.hl_length, Cu.hl_bv]
  refine Src.ofSlice w Try.underlying62 ⟨g, 3, none⟩ 32 32 _ (by simp [tabv]) (fun j u hu => ?_) (fun u hu => ?_)
  · have hj : j < 32 := by have := (List.getElem?_eq_some_iff.1 hu).1; rw [Array.length_toList, tabv_size] at this; exact this
    rw [Array.getElem?_toList, tabv_get _ _ _ hj] at hu
    have hadd : (⟨g, 3, none⟩ : Addr).add j = ⟨g, 3 + j, none⟩ := by unfold Addr.add; split <;> simp_all
    rw [hadd, hH.cell (3 + j) (by omega), Pen.v_hash p j hj]
    exact hu
  · simp only [tabv, List.mem_map, List.mem_range] at hu
    obtain ⟨i, _, rfl⟩ := hu
    rfl
set_option maxRecDepth 100000 in
set_option maxHeartbeats 4000000 in
theorem rtext_any (oo nn : Int) (h : Nat → UInt8) (x y : Int) (ad : Option Addr) (n cap : Nat) (l : List Pen) (hn : l.length = n) (hz : n ≤ 3910000000000) (hrg : ∀ p ∈ l, p.id ≤ 9223372036854775807) (w : World) (hS : Pens w ad l) : Calls Try.prog 15 #[.int .i64 oo, .int .i64 nn, .agg (tabv (bv h) 32), .agg (tabv (ledv x y (.slice ad n cap)) 3)] w fun e w' => ∃ b c, e = .returned (.tuple #[.string b, .int .i64 c]) ∧ TA oo nn h x y l b c ∧ Below w.heap.size w w' := by
  obtain ⟨wa, hWa⟩ : ∃ wX, w.alloc (.cells (tabv (bv h) 32) 23) = wX := ⟨_, rfl⟩
  have ra : Has wa w.heap.size 23 (bv h) 32 := by rw [← hWa]; exact Has.new w 23 (bv h) 32 _ rfl
  have ba : Below w.heap.size w wa := by rw [← hWa]; exact (Below.refl w.heap.size w).alloc (Nat.le_refl _) _
  obtain ⟨w1, hW1⟩ : ∃ wX, wa.alloc (.cells (tabv (ledv x y (.slice ad n cap)) 3) 26) = wX := ⟨_, rfl⟩
  have r1 : Has w1 wa.heap.size 26 (ledv x y (.slice ad n cap)) 3 := by rw [← hW1]; exact Has.new wa 26 (ledv x y (.slice ad n cap)) 3 _ rfl
  have b1 : Below wa.heap.size wa w1 := by rw [← hW1]; exact (Below.refl wa.heap.size wa).alloc (Nat.le_refl _) _
  have ra1 := ra.below b1 ra.lt
  have gb : Below w.heap.size w w1 := ba.trans (b1.mono ba.size)
  have HS1 := hide (hS.below gb)
  have HN := hide hn
  have HRG : Hid (∀ p ∈ l, p.id ≤ 9223372036854775807) := hrg
  have R1 := hide r1
  have RA := hide ra1
  have hni : (n : Int) ≤ 3910000000000 := by omega
  have HZ := hide hz
  clear r1 ra ra1 hS hn hz ba b1 hrg
  go_enter Try.func15, Try.ntmps15
  go_upto_region 1 with fail
  generalize hg : wa.heap.size = g at R1 ⊢
  generalize hgh : w.heap.size = gh at RA gb ⊢
  clear hg hWa hW1
  by_cases d1 : decide (oo < 0) = true
  · skip
    go_wp2
    go_ret2
    exact ⟨nilB, 1, rfl, ⟨fun _ => ⟨rfl, rfl⟩, fun h => absurd h (fun h => by unfold Arg at h; have := of_decide_eq_true d1; omega), fun h => absurd h (fun h => by unfold Arg at h; have := of_decide_eq_true d1; omega)⟩, (by rw [hgh]; exact gb)⟩
  rw [Bool.not_eq_true] at d1
  by_cases d2 : decide (1 < oo) = true
  · skip
    go_wp2
    go_ret2
    exact ⟨nilB, 1, rfl, ⟨fun _ => ⟨rfl, rfl⟩, fun h => absurd h (fun h => by unfold Arg at h; have := of_decide_eq_true d2; omega), fun h => absurd h (fun h => by unfold Arg at h; have := of_decide_eq_true d2; omega)⟩, (by rw [hgh]; exact gb)⟩
  rw [Bool.not_eq_true] at d2
  by_cases d3 : decide (nn < 0) = true
  · skip
    go_wp2
    go_ret2
    exact ⟨nilB, 1, rfl, ⟨fun _ => ⟨rfl, rfl⟩, fun h => absurd h (fun h => by unfold Arg at h; have := of_decide_eq_true d3; omega), fun h => absurd h (fun h => by unfold Arg at h; have := of_decide_eq_true d3; omega)⟩, (by rw [hgh]; exact gb)⟩
  rw [Bool.not_eq_true] at d3
  by_cases d4 : decide (281474976710655 < nn) = true
  · skip
    go_wp2
    go_ret2
    exact ⟨nilB, 1, rfl, ⟨fun _ => ⟨rfl, rfl⟩, fun h => absurd h (fun h => by unfold Arg at h; have := of_decide_eq_true d4; omega), fun h => absurd h (fun h => by unfold Arg at h; have := of_decide_eq_true d4; omega)⟩, (by rw [hgh]; exact gb)⟩
  rw [Bool.not_eq_true] at d4
  have HA : Hid (Arg oo nn) := by have := of_decide_eq_false d1; have := of_decide_eq_false d2; have := of_decide_eq_false d3; have := of_decide_eq_false d4; exact ⟨by omega, by omega, by omega, by omega⟩
  go_wp2_with (first | refine wpW_load_at 26 _ rfl (g) (0) (by rfl) (by rfl) _ 3 _ (R1.out.at_ 0 (by omega) (fun i hi => by rw [Nat.zero_add])) Try.underlying26 rfl infoL ?_ | fail)
  refine (rsound_any x y ad n cap l HN.out HZ.out _ HS1.out).mono ?_
  rintro e w2 ⟨R, rfl, hR, hb2⟩
  have gb2 : Below gh w w2 := gb.trans (hb2.mono (by have := RA.out.lt; omega))
  have R2 := hide (R1.out.below hb2 R1.out.lt)
  have RA2 := hide (RA.out.below hb2 RA.out.lt)
  have HS2 := hide (HS1.out.below hb2)
  have HR := hide hR
  clear hb2 R1 RA HS1 hR d1 d2 d3 d4 gb
  cases R with
  | false =>
    go_wp2
    go_ret2
    exact ⟨nilB, 4, rfl, ⟨fun h => absurd HA.out h, fun _ _ => ⟨rfl, rfl⟩, fun _ h => by have := HR.out.2 h; cases this⟩, (by rw [hgh]; exact gb2)⟩
  | true =>
    have HSD := hide (HR.out.1 rfl)
    have hn9 : n ≤ 966 := by rw [← HN.out]; exact HSD.out.len
    have hn9i : (n : Int) ≤ 966 := by omega
    have HN9 := hide hn9
    obtain ⟨oc, hoc⟩ : ∃ c : UInt8, c = UInt8.ofNat oo.toNat := ⟨_, rfl⟩
    have HOC : Hid (oo = (oc.toNat : Int) ∧ [oc] = nb oo.toNat 1) := by
      have := HA.out
      unfold Arg at this
      refine ⟨by rw [hoc, UInt8.toNat_ofNat', Nat.mod_eq_of_lt (by omega)]; omega, by rw [hoc, nb_one]⟩
    have K1 : Hid (∀ w : World, (convert 3 5 (.int .i64 oo)).run Try.prog w = .ok (.int .u8 oo) w) := fun w => by
      have h := run_convert_int (P := Try.prog) (w := w) 3 5 .i64 oo (by kernel_rfl) (by kernel_rfl)
      rw [show Try.prog.intKind 5 = .u8 by kernel_rfl, show IntKind.u8.wrap oo = oo by have := HA.out; unfold Arg at this; simp [IntKind.wrap, IntKind.bits, IntKind.signed]; omega] at h
      exact h
    have HNN : Hid (nn = ((u64 nn : Nat) : Int)) := by have := HA.out; unfold Arg at this; show _ = _; rw [u64_nat (by omega) (by omega)]; omega
    have HXX : Hid (x = ((u64 x : Nat) : Int)) := by have := amB_rng HSD.out.1.1; show _ = _; rw [u64_nat (by omega) (by omega)]; omega
    have HYY : Hid (y = ((u64 y : Nat) : Int)) := by have := amB_rng HSD.out.1.2; show _ = _; rw [u64_nat (by omega) (by omega)]; omega
    have B3 := hide (bytes_new w2 w2.heap.size oc oo HOC.out.1 (Nat.le_refl _))
    obtain ⟨w3, hW3⟩ : ∃ z, w2.alloc (.cells #[.int .u8 oo] 5) = z := ⟨_, rfl⟩
    rw [hW3] at B3
    have bl3 : Below w2.heap.size w2 w3 := by rw [← hW3]; exact (Below.refl _ _).alloc (Nat.le_refl _) _
    have HB3 : Hid (Below w2.heap.size w2 w3 ∧ w2.heap.size ≤ w3.heap.size) := ⟨bl3, bl3.size⟩
    have HLT : Hid (g < w2.heap.size ∧ gh < w2.heap.size) := ⟨R2.out.lt, RA2.out.lt⟩
    clear hoc hn9 bl3
    go_upto_region 6 with (first | refine Cu.wpList_conv rfl _ _ _ rfl .i64 .u8 oo oo (by rfl) (K1.out _) ?_)
    try rw [hW3]
    generalize hv3 : Value.slice (some ⟨w2.heap.size, 0, none⟩) 1 1 = v3 at B3 ⊢
    obtain ⟨Bn, hBn⟩ : ∃ z, w2.heap.size = z := ⟨_, rfl⟩
    rw [hBn] at B3 HB3 HLT
    have HS2' : Hid (∀ wx, Below Bn w2 wx → Pens wx ad l) := fun wx hx => HS2.out.below (hBn ▸ hx)
    have HGB : Hid (∀ wx, Below Bn w2 wx → Below gh w wx) := fun wx hx => gb2.trans (hx.mono (by have := HLT.out; omega))
    clear hW3 hv3 hBn HS2 gb2 K1
    obtain ⟨L3, hL3⟩ : ∃ Lx, [oc] = Lx := ⟨_, rfl⟩
    rw [hL3] at B3
    have HL3 : Hid (L3.length = 1) := by show _ = _; rw [← hL3]; rfl
    have E3 := hide hL3
    clear hL3
    go_wp2_with fail
    refine (rnumber_any 8 (by omega) nn (u64 nn) HNN.out v3 L3 Bn _ B3.out HB3.out.2 (by have := HL3.out; omega) _ rfl).mono ?_
    rintro e w4 ⟨v4, rfl, hB, hM⟩
    have HB4 := hide (mv_below HB3.out.1 B3.out hM HB3.out.2)
    obtain ⟨L4, hL4⟩ : ∃ Lx, L3 ++ nb (u64 nn) 8 = Lx := ⟨_, rfl⟩
    rw [hL4] at hB
    have HL4 : Hid (L4.length = 9) := by show _ = _; rw [← hL4, List.length_append, HL3.out]; simp only [Cu.nb_length, Cu.hl_length]
    have E4 := hide hL4
    have B4 := hide hB
    clear hB hM hL4 B3 HB3
    have SH := hide (fun (wx : World) (hx : Below Bn w2 wx) => Cu.src_hash (RA2.out.below hx HLT.out.2))
    go_upto_region 8 with (first | (at_builtin; refine Cu.wpList_append_src rfl _ _ _ rfl Bn v4 L4 rfl B4.out (.slice (some ⟨gh, 0, none⟩) 32 32) (hl h) rfl (SH.out _ HB4.out.1) (by rw [Cu.hl_length]; have := HL4.out; omega) HB4.out.2 ?_; intro ad5 n5 c5 w5 hB hM))
    generalize hv5 : Value.slice ad5 n5 c5 = v5 at hB hM ⊢
    have HB5 := hide (mv_below HB4.out.1 B4.out hM HB4.out.2)
    obtain ⟨L5, hL5⟩ : ∃ Lx, L4 ++ hl h = Lx := ⟨_, rfl⟩
    rw [hL5] at hB
    have HL5 : Hid (L5.length = 41) := by show _ = _; rw [← hL5, List.length_append, HL4.out, Cu.hl_length]
    have E5 := hide hL5
    have B5 := hide hB
    clear hB hM hL5 hv5 B4 HB4
    have c5 : w5.cell? ⟨g, 0, none⟩ = some (.int .i64 x) := (R2.out.below HB5.out.1 HLT.out.1).cell 0 (by omega)
    go_wp2_with fail
    refine (rnumber_any 8 (by omega) x (u64 x) HXX.out v5 L5 Bn _ B5.out HB5.out.2 (by have := HL5.out; omega) _ rfl).mono ?_
    rintro e w6 ⟨v6, rfl, hB, hM⟩
    have HB6 := hide (mv_below HB5.out.1 B5.out hM HB5.out.2)
    obtain ⟨L6, hL6⟩ : ∃ Lx, L5 ++ nb (u64 x) 8 = Lx := ⟨_, rfl⟩
    rw [hL6] at hB
    have HL6 : Hid (L6.length = 49) := by show _ = _; rw [← hL6, List.length_append, HL5.out]; simp only [Cu.nb_length, Cu.hl_length]
    have E6 := hide hL6
    have B6 := hide hB
    clear hB hM hL6 B5 HB5
    clear c5
    have c6 : w6.cell? ⟨g, 1, none⟩ = some (.int .i64 y) := (R2.out.below HB6.out.1 HLT.out.1).cell 1 (by omega)
    go_wp2_with fail
    refine (rnumber_any 8 (by omega) y (u64 y) HYY.out v6 L6 Bn _ B6.out HB6.out.2 (by have := HL6.out; omega) _ rfl).mono ?_
    rintro e w7 ⟨v7, rfl, hB, hM⟩
    have HB7 := hide (mv_below HB6.out.1 B6.out hM HB6.out.2)
    obtain ⟨L7, hL7⟩ : ∃ Lx, L6 ++ nb (u64 y) 8 = Lx := ⟨_, rfl⟩
    rw [hL7] at hB
    have HL7 : Hid (L7.length = 57) := by show _ = _; rw [← hL7, List.length_append, HL6.out]; simp only [Cu.nb_length, Cu.hl_length]
    have E7 := hide hL7
    have B7 := hide hB
    clear hB hM hL7 B6 HB6
    clear c6
    have c7 : w7.cell? ⟨g, 2, none⟩ = some (.slice ad n cap) := (R2.out.below HB7.out.1 HLT.out.1).cell 2 (by omega)
    go_wp2_with fail
    refine (rnumber_any 2 (by omega) (n : Int) n rfl v7 L7 Bn _ B7.out HB7.out.2 (by have := HL7.out; omega) _ rfl).mono ?_
    rintro e w8 ⟨v8, rfl, hB, hM⟩
    have HB8 := hide (mv_below HB7.out.1 B7.out hM HB7.out.2)
    obtain ⟨L8, hL8⟩ : ∃ Lx, L7 ++ nb n 2 = Lx := ⟨_, rfl⟩
    rw [hL8] at hB
    have HL8 : Hid (L8.length = 59) := by show _ = _; rw [← hL8, List.length_append, HL7.out]; simp only [Cu.nb_length, Cu.hl_length]
    have E8 := hide hL8
    have B8 := hide hB
    clear hB hM hL8 B7 HB7
    clear c7
    have EH : Hid (L8 = headB oo nn h x y n) := by
      show _ = _
      rw [← E8.out, ← E7.out, ← E6.out, ← E5.out, ← E4.out, ← E3.out, HOC.out.2]
      rfl
    clear E3 E4 E5 E6 E7 E8
    go_wp2
    go_loopw [10, 11] (fun bx ix wr => ∃ (j : Nat) (Lr : List UInt8), j ≤ n ∧ ix = .int .i64 (j : Int) ∧ Hid (Lr = L8 ++ opensB (l.take j)) ∧ Hid (Bytes wr Bn bx Lr) ∧ Hid (Below Bn w2 wr ∧ Bn ≤ wr.heap.size)) (fun _ ix _ => n - (intOf ix).toNat)
    case atStart => exact ⟨0, L8, Nat.zero_le _, rfl, (by show _ = _; simp [opensB]), B8.out, HB8.out⟩
    case round =>
      obtain ⟨j, Lr, hj, rfl, ELr, Br, HBr⟩ := hrel
      clear B8 HB8
      have hlr : Hid (Lr.length ≤ 59 + 49 * n) := by
        show _ ≤ _
        rw [ELr.out, List.length_append, HL8.out, opensB_length, List.length_take]
        have : min j l.length ≤ n := by rw [HN.out]; omega
        omega
      have cL : wr.cell? ⟨g, 2, none⟩ = some (.slice ad n cap) := (R2.out.below HBr.out.1 HLT.out.1).cell 2 (by omega)
      by_cases hlt : j < n
      · have hd : decide ((j : Int) < (n : Int)) = true := decide_eq_true (by omega)
        have hd2 : decide (j < n) = true := decide_eq_true hlt
        have hk0 : (0 : Int) ≤ (j : Int) := by omega
        have hk1 : (j : Int) < (n : Int) := by omega
        obtain ⟨s, hs⟩ : ∃ s, l[j]? = some s := ⟨_, List.getElem?_eq_getElem (by rw [HN.out]; exact hlt)⟩
        obtain ⟨b, o, rfl, hb1, hA⟩ := (HS2'.out _ HBr.out.1).get j s hs
        have HS := hide hs
        have HA' := hide hA
        have HJ := hide hlt
        have hok := okP_rng (HSD.out.ok (List.mem_of_getElem? hs))
        obtain ⟨w6, w7, hW6, q1, hW7, r7, rb⟩ := newP wr s
        have Q1 := hide q1
        obtain ⟨so, hso⟩ : ∃ z, s.ours = z := ⟨_, rfl⟩
        have HSO := hide hso
        have a0 : w7.cell? ⟨wr.heap.size, 0, none⟩ = some (.bool so) := by rw [← hso]; exact r7.cell 0 (by omega)
        have R7 := hide r7
        have hne : Hid (u10.ownBlock ≠ some wr.heap.size) := fun e => by have := Br.out.lt _ e; omega
        have B7 : Hid (Bytes w7 Bn u10 Lr) := Br.out.same (fun k hk => rb.block k (Br.out.lt k hk))
        have HB7 : Hid (Below Bn w2 w7 ∧ Bn ≤ w7.heap.size) := ⟨HBr.out.1.trans (rb.mono HBr.out.2), Nat.le_trans HBr.out.2 rb.size⟩
        have hid := HRG.out s (List.mem_of_getElem? hs)
        have HIR : Hid (s.id = ((Go.Proofs.Ythcaokiboimibaa.u64 s.id : Nat) : Int)) := by show _ = _; rw [u64_nat hok.1 hid]; omega
        have HAM : Hid (s.amt = ((Go.Proofs.Ythcaokiboimibaa.u64 s.amt : Nat) : Int)) := by show _ = _; rw [u64_nat (by omega) (by omega)]; omega
        clear hs hA q1 r7 hb1 hso rb hok hid
        go_upto_region 15 with (first | refine wpW_load_at 39 _ rfl (b) (o + j * 35) (by rfl) (by rfl) _ 35 _ (HA'.out) Try.underlying39 rfl infoP ?_ | refine wpList_storeP rfl _ _ rfl rfl (wr.heap.size) (s) rfl rfl _ Q1.out ?_)
        try rw [hW7]
        generalize hgP : wr.heap.size = gP at Q1 R7 a0 hne hW7 ⊢
        clear hgP hW6 hW7 Q1 Br HBr cL
        cases so with
        | false =>
          have hl1 : Lr.length + 1 ≤ 140737488355328 := by have := hlr.out; have := HN9.out; omega
          have HL1 := hide hl1
          clear hl1
          go_upto_region 19 with (first | (at_builtin; refine Cu.wpList_append_byte rfl _ _ rfl Bn _ Lr 0 _ rfl (by rfl) B7.out (by rfl) rfl HL1.out HB7.out.2 ?_; intro gq cq wq hB hM))
          generalize hvq : Value.slice (some ⟨gq, 0, none⟩) (Lr.length + 1) cq = v9 at hB hM ⊢
          generalize hwq : wq = wz9 at hB hM ⊢
          clear hwq
          have HB9 := hide (mv_below HB7.out.1 B7.out hM HB7.out.2)
          have R9 := hide (R7.out.mv hM hne.out).1
          have hne9 := hide (R7.out.mv hM hne.out).2
          obtain ⟨L9, hL9⟩ : ∃ Lx, Lr ++ [0] = Lx := ⟨_, rfl⟩
          rw [hL9] at hB
          have HL9 : Hid (L9.length ≤ 59 + 49 * n + 1) := by show _ ≤ _; rw [← hL9, List.length_append]; have := hlr.out; simp; omega
          have E9 := hide hL9
          have B9 := hide hB
          clear hB hM hL9 hvq B7 HB7 R7 hne
          have a1 : wz9.cell? ⟨gP, 1, none⟩ = some (.int .i64 s.id) := R9.out.cell 1 (by omega)
          go_wp2_with fail
          refine (rnumber_any 8 (by omega) s.id (Go.Proofs.Ythcaokiboimibaa.u64 s.id) HIR.out v9 L9 Bn _ B9.out HB9.out.2 (by have := HL9.out; have := HN9.out; omega) _ rfl).mono ?_
          rintro e w10 ⟨v10, rfl, hB, hM⟩
          have HB10 := hide (mv_below HB9.out.1 B9.out hM HB9.out.2)
          have R10 := hide (R9.out.mv hM hne9.out).1
          have hne10 := hide (R9.out.mv hM hne9.out).2
          obtain ⟨L10, hL10⟩ : ∃ Lx, L9 ++ nb (Go.Proofs.Ythcaokiboimibaa.u64 s.id) 8 = Lx := ⟨_, rfl⟩
          rw [hL10] at hB
          have HL10 : Hid (L10.length ≤ 59 + 49 * n + 9) := by show _ ≤ _; rw [← hL10, List.length_append, Cu.nb_length]; have := HL9.out; omega
          have E10 := hide hL10
          have B10 := hide hB
          clear hB hM hL10 B9 HB9 R9 hne9
          clear a1
          have a2 : w10.cell? ⟨gP, 2, none⟩ = some (.int .i64 s.amt) := R10.out.cell 2 (by omega)
          go_wp2_with fail
          refine (rnumber_any 8 (by omega) s.amt (Go.Proofs.Ythcaokiboimibaa.u64 s.amt) HAM.out v10 L10 Bn _ B10.out HB10.out.2 (by have := HL10.out; have := HN9.out; omega) _ rfl).mono ?_
          rintro e w11 ⟨v11, rfl, hB, hM⟩
          have HB11 := hide (mv_below HB10.out.1 B10.out hM HB10.out.2)
          have R11 := hide (R10.out.mv hM hne10.out).1
          have hne11 := hide (R10.out.mv hM hne10.out).2
          obtain ⟨L11, hL11⟩ : ∃ Lx, L10 ++ nb (Go.Proofs.Ythcaokiboimibaa.u64 s.amt) 8 = Lx := ⟨_, rfl⟩
          rw [hL11] at hB
          have HL11 : Hid (L11.length ≤ 59 + 49 * n + 17) := by show _ ≤ _; rw [← hL11, List.length_append, Cu.nb_length]; have := HL10.out; omega
          have E11 := hide hL11
          have B11 := hide hB
          clear hB hM hL11 B10 HB10 R10 hne10
          clear a2
          have SP := hide (src_pen R11.out)
          go_upto_region 13 with (first | (at_builtin; refine Cu.wpList_append_src rfl _ _ _ rfl Bn v11 L11 rfl B11.out (.slice (some ⟨gP, 3, none⟩) 32 32) (hl s.hash) rfl SP.out (by rw [Cu.hl_length]; have := HL11.out; have := HN9.out; omega) HB11.out.2 ?_; intro ad12 n12 c12 w12 hB hM))
          have HB12 := hide (mv_below HB11.out.1 B11.out hM HB11.out.2)
          have hEN : L11 ++ hl s.hash = L8 ++ opensB (l.take (j + 1)) := by
            rw [opensB_next HS.out, ← E11.out, ← E10.out, ← E9.out, ELr.out]
            unfold penB
            rw [HSO.out]
            simp [nb_one]
          have HEN := hide hEN
          have B12 := hide hB
          clear hB hM hEN B11 HB11 R11 hne11 E9 E10 E11 SP
          go_wp2
          go_roundw
          case rel => exact ⟨j + 1, _, by have := HJ.out; omega, by go_num, HEN.out, B12.out, HB12.out⟩
          case measure => have := HJ.out; simp [intOf]; omega
        | true =>
          have hl1 : Lr.length + 1 ≤ 140737488355328 := by have := hlr.out; have := HN9.out; omega
          have HL1 := hide hl1
          clear hl1
          go_upto_region 19 with (first | (at_builtin; refine Cu.wpList_append_byte rfl _ _ rfl Bn _ Lr 1 _ rfl (by rfl) B7.out (by rfl) rfl HL1.out HB7.out.2 ?_; intro gq cq wq hB hM))
          generalize hvq : Value.slice (some ⟨gq, 0, none⟩) (Lr.length + 1) cq = v9 at hB hM ⊢
          generalize hwq : wq = wz9 at hB hM ⊢
          clear hwq
          have HB9 := hide (mv_below HB7.out.1 B7.out hM HB7.out.2)
          have R9 := hide (R7.out.mv hM hne.out).1
          have hne9 := hide (R7.out.mv hM hne.out).2
          obtain ⟨L9, hL9⟩ : ∃ Lx, Lr ++ [1] = Lx := ⟨_, rfl⟩
          rw [hL9] at hB
          have HL9 : Hid (L9.length ≤ 59 + 49 * n + 1) := by show _ ≤ _; rw [← hL9, List.length_append]; have := hlr.out; simp; omega
          have E9 := hide hL9
          have B9 := hide hB
          clear hB hM hL9 hvq B7 HB7 R7 hne
          have a1 : wz9.cell? ⟨gP, 1, none⟩ = some (.int .i64 s.id) := R9.out.cell 1 (by omega)
          go_wp2_with fail
          refine (rnumber_any 8 (by omega) s.id (Go.Proofs.Ythcaokiboimibaa.u64 s.id) HIR.out v9 L9 Bn _ B9.out HB9.out.2 (by have := HL9.out; have := HN9.out; omega) _ rfl).mono ?_
          rintro e w10 ⟨v10, rfl, hB, hM⟩
          have HB10 := hide (mv_below HB9.out.1 B9.out hM HB9.out.2)
          have R10 := hide (R9.out.mv hM hne9.out).1
          have hne10 := hide (R9.out.mv hM hne9.out).2
          obtain ⟨L10, hL10⟩ : ∃ Lx, L9 ++ nb (Go.Proofs.Ythcaokiboimibaa.u64 s.id) 8 = Lx := ⟨_, rfl⟩
          rw [hL10] at hB
          have HL10 : Hid (L10.length ≤ 59 + 49 * n + 9) := by show _ ≤ _; rw [← hL10, List.length_append, Cu.nb_length]; have := HL9.out; omega
          have E10 := hide hL10
          have B10 := hide hB
          clear hB hM hL10 B9 HB9 R9 hne9
          clear a1
          have a2 : w10.cell? ⟨gP, 2, none⟩ = some (.int .i64 s.amt) := R10.out.cell 2 (by omega)
          go_wp2_with fail
          refine (rnumber_any 8 (by omega) s.amt (Go.Proofs.Ythcaokiboimibaa.u64 s.amt) HAM.out v10 L10 Bn _ B10.out HB10.out.2 (by have := HL10.out; have := HN9.out; omega) _ rfl).mono ?_
          rintro e w11 ⟨v11, rfl, hB, hM⟩
          have HB11 := hide (mv_below HB10.out.1 B10.out hM HB10.out.2)
          have R11 := hide (R10.out.mv hM hne10.out).1
          have hne11 := hide (R10.out.mv hM hne10.out).2
          obtain ⟨L11, hL11⟩ : ∃ Lx, L10 ++ nb (Go.Proofs.Ythcaokiboimibaa.u64 s.amt) 8 = Lx := ⟨_, rfl⟩
          rw [hL11] at hB
          have HL11 : Hid (L11.length ≤ 59 + 49 * n + 17) := by show _ ≤ _; rw [← hL11, List.length_append, Cu.nb_length]; have := HL10.out; omega
          have E11 := hide hL11
          have B11 := hide hB
          clear hB hM hL11 B10 HB10 R10 hne10
          clear a2
          have SP := hide (src_pen R11.out)
          go_upto_region 13 with (first | (at_builtin; refine Cu.wpList_append_src rfl _ _ _ rfl Bn v11 L11 rfl B11.out (.slice (some ⟨gP, 3, none⟩) 32 32) (hl s.hash) rfl SP.out (by rw [Cu.hl_length]; have := HL11.out; have := HN9.out; omega) HB11.out.2 ?_; intro ad12 n12 c12 w12 hB hM))
          have HB12 := hide (mv_below HB11.out.1 B11.out hM HB11.out.2)
          have hEN : L11 ++ hl s.hash = L8 ++ opensB (l.take (j + 1)) := by
            rw [opensB_next HS.out, ← E11.out, ← E10.out, ← E9.out, ELr.out]
            unfold penB
            rw [HSO.out]
            simp [nb_one]
          have HEN := hide hEN
          have B12 := hide hB
          clear hB hM hEN B11 HB11 R11 hne11 E9 E10 E11 SP
          go_wp2
          go_roundw
          case rel => exact ⟨j + 1, _, by have := HJ.out; omega, by go_num, HEN.out, B12.out, HB12.out⟩
          case measure => have := HJ.out; simp [intOf]; omega
      · have hjn : j = n := by omega
        subst hjn
        have hd : decide ((j : Int) < (j : Int)) = false := decide_eq_false (by omega)
        have hd2 : decide (j < j) = false := decide_eq_false (by omega)
        have et : l.take j = l := by rw [← HN.out]; exact List.take_length
        have CV : Hid (∀ wx, wx = wr → (convert 62 9 u10).run Try.prog wx = .ok (.string ⟨Lr.toArray⟩) wx) := fun wx hx => by rw [hx]; exact Br.out.conv
        have eo : (⟨Lr.toArray⟩ : ByteArray) = ofL (textB oo nn h x y l) := by
          have h1 := ELr.out
          rw [et, EH.out] at h1
          unfold textB
          rw [HN.out, ← h1]
          rfl
        have HEO := hide eo
        clear eo et
        go_wp2_with (first | refine Cu.wpW_conv 62 9 _ rfl u10 (.string ⟨Lr.toArray⟩) (by rfl) (by rfl) (CV.out _ rfl) ?_ | fail)
        go_ret2
        exact ⟨_, _, rfl, ⟨fun h => absurd HA.out h, fun _ h => absurd HSD.out h, fun _ _ => ⟨HEO.out, rfl⟩⟩, (by rw [hgh]; exact HGB.out _ HBr.out.1)⟩
end Go.Proofs.Ythcaokiboimibaa
