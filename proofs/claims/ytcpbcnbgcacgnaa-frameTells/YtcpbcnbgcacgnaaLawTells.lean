/-
  FrameTells.
-/
import Derived.Test.YtcpbcnbgcacgnaaFFlip
import Derived.Lib.ConvBytes
namespace Go.Proofs.Ytcpbcnbgcacgnaa
open Go.RowKit C
set_option linter.unusedVariables false
/-- []byte(b): a new block of the bytes. -/
theorem bytes_of (b : ByteArray) (w : World) : ∃ (g cap : Nat) (W : World), g = w.heap.size ∧ (convert 9 39 (.string b)).run Try.prog w = .ok (.slice (some ⟨g, 0, none⟩) b.size cap) W ∧ Below w.heap.size w W ∧ W.heap.size = g + 1 ∧
    ∃ cur fz, W.heap[g]? = some (.cells cur 5 fz) ∧ b.size ≤ fz.1 ∧ (∀ j, j < b.size → cur[j]? = some (.int .u8 ((b.data.toList.getD j 0).toNat : Int))) := by
  refine ⟨w.heap.size, _, Lib.bytesWorld w 5 b, rfl, Lib.run_convert_string_bytes w 9 39 5 b Try.underlying9 Try.underlying39 Try.underlying5, ?_, Lib.bytesWorld_size w 5 b, _, _, Lib.bytesWorld_at_new w 5 b, ?_, ?_⟩
  · exact ⟨rfl, rfl, rfl, by rw [Lib.bytesWorld_size]; omega, fun j hj => Lib.bytesWorld_at_old w 5 b j hj⟩
  · simp [Lib.bytesCells]
  · intro j hj
    have := Lib.bytesWorld_cell w 5 b j hj
    unfold World.cell? at this
    rw [Lib.bytesWorld_at_new] at this
    simpa using this
theorem wrap_at (x : Int) (j : Nat) (h : x = (j : Int)) (hj : j < 9223372036854775808) : wrap64 x = (j : Int) := by
  subst h; unfold wrap64; omega
theorem u8_xor_byte (x y : UInt8) : bits .xor .u8 (x.toNat : Int) (y.toNat : Int) = ((x ^^^ y).toNat : Int) := by
  have hx := x.toNat_lt
  have hy := y.toNat_lt
  show IntKind.u8.wrap _ = _
  have e : ((BitVec.ofInt IntKind.u8.bits (x.toNat : Int)) ^^^ (BitVec.ofInt IntKind.u8.bits (y.toNat : Int))).toNat = (x ^^^ y).toNat := by
    show ((BitVec.ofInt 8 (x.toNat : Int)) ^^^ (BitVec.ofInt 8 (y.toNat : Int))).toNat = (x ^^^ y).toNat
    rw [BitVec.toNat_xor, UInt8.toNat_xor]
    simp
  rw [e, IntKind.wrap_u8]
  have := (x ^^^ y).toNat_lt
  omega
/-- What stands behind the store, as a text. -/
theorem set_text (W : World) (g cap A : Nat) (b : ByteArray) (x : UInt8) (cur : Array Value) (fz : Nat × Nat) (hg : W.heap[g]? = some (.cells cur 5 fz)) (hc : ∀ j, j < b.size → cur[j]? = some (.int .u8 ((b.data.toList.getD j 0).toNat : Int))) (hA : A < b.size) :
    ∃ S : ByteArray, S.data.toList = b.data.toList.set A x ∧ ∀ w', (∀ j, w'.cell? ⟨g, j, none⟩ = (W.setCell ⟨g, A, none⟩ (.int .u8 (x.toNat : Int))).cell? ⟨g, j, none⟩) → (convert 39 9 (.slice (some ⟨g, 0, none⟩) b.size cap)).run Try.prog w' = .ok (.string S) w' := by
  have hcell : ∀ j, j < b.size → W.cell? ⟨g, j, none⟩ = some (.int .u8 ((b.data.toList.getD j 0).toNat : Int)) := fun j hj => by
    unfold World.cell?
    rw [hg]
    exact hc j hj
  refine ⟨strOfNums ((b.data.toList.set A x).map fun c => (c.toNat : Int)), ?_, fun w' hw => ?_⟩
  · simp only [strOfNums, List.map_map, Function.comp_def, Int.toNat_natCast]
    simp
  · refine run_convert_bytes_arg w' 39 5 Try.underlying39 Try.underlying5 g 0 b.size cap _ (by simp) (fun i hi => ?_) 9 Try.underlying9
    rw [Nat.zero_add, hw i]
    have hlen : i < (b.data.toList.set A x).length := by rw [List.length_set, str_len]; exact hi
    by_cases h : A = i
    · subst h
      rw [World.cell?_setCell_same _ _ _ (hcell A hA)]
      rw [List.getD, List.getElem?_map, List.getElem?_set_self (show A < b.data.toList.length by rw [str_len]; exact hA)]
      rfl
    · rw [World.cell?_setCell_other _ _ _ _ (by intro e; cases e; exact h rfl), hcell i hi]
      rw [List.getD, List.getD, List.getElem?_map, List.getElem?_set_ne h, List.getElem?_eq_getElem (show i < b.data.toList.length by rw [str_len]; exact hi)]
      rfl
set_option maxRecDepth 8000 in
set_option maxHeartbeats 4000000 in
theorem frameTells_walk (ks : List Key) (ad : Option Addr) (cp : Nat) (n which at_ : Int) (bt : UInt8) (w : World) (hl : ks.length * 16 ≤ 140737488355328) (hr : RowAt w ad (ks.map encStr)) :
    Calls Try.prog 6 #[.slice ad ks.length cp, .int .i64 n, .int .i64 which, .int .i64 at_, .int .u8 (bt.toNat : Int)] w fun e w' => e = .returned (.bool true) ∧ Below w.heap.size w w' := by
  obtain ⟨m, hm, hnum⟩ := number_any n
  have HNum := hide hnum
  have HL := hide hl
  have HR := hide hr
  have HM := hide hm
  obtain ⟨bi, hbi⟩ : ∃ bi : Int, (bt.toNat : Int) = bi := ⟨_, rfl⟩
  rw [hbi]
  have HBi := hide hbi
  clear hnum hl hr hm hbi
  go_enter Try.func6, Try.ntmps6
  go_wp2_with fail
  refine (first_any _).mono ?_
  rintro e w1 ⟨rfl, hb1⟩
  go_wp2_with fail
  refine (HNum.out _).mono ?_
  rintro e w2 ⟨rfl, hw2⟩
  obtain rfl := hw2
  go_wp2_with fail
  refine (joined_any m ks ad cp _ HM.out HL.out (HR.out.below hb1)).mono ?_
  rintro e w3 ⟨B, v1, v2, rfl, hB, ho1, ho2, hb3⟩
  obtain ⟨ow, how⟩ : ∃ ow, ks.filter small = ow := ⟨_, rfl⟩
  rw [how] at hB ho1 ho2
  have hos : ∀ q ∈ ow, q.length ≤ 65536 := fun q hq => small_mem (by rw [how]; exact hq)
  have hol : ow.length ≤ ks.length := by rw [← how]; exact List.length_filter_le _ _
  have hLL := HL.out
  have hMM := HM.out
  have hjl := joinLen_le ow hos
  have hBl : B.size = joinLen ow := by rw [← str_len, hB, joinF_length]
  obtain ⟨ad1, cp1, rfl, hrow1, hcp1, hcm1, -⟩ := own_at ho1
  obtain ⟨ad2, cp2, rfl, hrow2, -, -, -⟩ := own_at ho2
  have HB3 := hide (hb1.trans (hb3.mono hb1.size))
  obtain ⟨M, hMe⟩ : ∃ M : Int, (m : Int) = M := ⟨_, rfl⟩
  rw [hMe]
  have HMe := hide hMe
  clear hMe hb3 ho1 ho2 how
  by_cases h0 : ow.length = 0
  · have d0 : ((ow.length : Int) == 0) = true := beq_iff_eq.2 (by omega)
    clear h0 hjl hBl hLL hMM hol hos hB hrow1 hrow2 hcp1 hcm1
    go_wp2
    go_ret
    exact ⟨rfl, HB3.out⟩
  have d0 : ((ow.length : Int) == 0) = false := beq_eq_false_iff_ne.2 (by omega)
  by_cases hz : bt = 0
  · have d1 : (bi == 0) = true := by rw [← HBi.out, hz]; rfl
    clear h0 hjl hBl hLL hMM hol hos hB hrow1 hrow2 hcp1 hcm1 hz
    go_wp2
    go_ret
    exact ⟨rfl, HB3.out⟩
  have d1 : (bi == 0) = false := by
    rw [beq_eq_false_iff_ne, ← HBi.out]
    intro e
    apply hz
    apply UInt8.toNat_inj.1
    have : ((0 : UInt8).toNat : Int) = 0 := rfl
    omega
  obtain ⟨U, L, wh, hwh, hmod⟩ := modded which ow.length (by omega) (by omega)
  obtain ⟨p, hp⟩ : ∃ p, ow[wh] = p := ⟨_, rfl⟩
  have hps : p.length ≤ 65536 := by rw [← hp]; exact hos _ (List.getElem_mem _)
  have hr := room_ge p.length
  obtain ⟨R, hR⟩ : ∃ R : Nat, room p.length = R := ⟨_, rfl⟩
  rw [hR] at hr
  obtain ⟨fr, hfr⟩ : ∃ fr : Nat, joinLen (ow.take wh) = fr := ⟨_, rfl⟩
  obtain ⟨en, hen⟩ : ∃ en : Nat, joinLen (ow.take (wh + 1)) = en := ⟨_, rfl⟩
  have hfe : en = fr + R := by rw [← hen, ← hfr, List.take_succ_eq_append_getElem hwh, joinLen_snoc, hp, hR]
  have hel : en ≤ joinLen ow := by
    have := joinLen_mono ow (show wh + 1 ≤ ow.length by omega)
    rw [List.take_length] at this
    omega
  obtain ⟨U2, L2, j0, hj0, hmod2⟩ := modded at_ (R - 4) (by omega) (by omega)
  obtain ⟨A, hA⟩ : ∃ A : Nat, fr + 4 + j0 = A := ⟨_, rfl⟩
  have hAB : A < B.size := by omega
  have hends : ∀ i, i < ow.length → (endsL ow)[i]? = some (joinLen (ow.take (i + 1))) := fun i hi => by
    unfold endsL
    rw [List.getElem?_map, List.getElem?_range hi]; rfl
  -- the frame's byte and the text behind
  have hF := flip_old m ow wh hwh (4 + j0) (by rw [hp, hR]; omega)
  rw [hfr, hp, ← Nat.add_assoc, hA, ← hB] at hF
  have hj4 : 4 + j0 < (frameL (m + wh) p).length := by rw [frameL_length, hR]; omega
  rw [List.getElem?_eq_getElem hj4] at hF
  obtain ⟨c0, hc0⟩ : ∃ c0 : UInt8, (frameL (m + wh) p)[4 + j0] = c0 := ⟨_, rfl⟩
  rw [hc0] at hF
  have hT := flip_text m ow wh hwh (4 + j0) (by rw [hp, hR]; omega) (c0 ^^^ bt)
  rw [hfr, hp, ← Nat.add_assoc, hA, ← hB] at hT
  have hno : wholeT ((frameL (m + wh) p).set (4 + j0) (c0 ^^^ bt) ++ joinF (m + wh + 1) (ow.drop (wh + 1))) ((m + wh : Nat) : Int) = none :=
    flip_none (m + wh) p _ (4 + j0) (c0 ^^^ bt) hps (by omega) (by omega) hj4 (by rw [hc0]; intro e; exact hz (xor_self8 _ _ e))
  generalize hrr : (frameL (m + wh) p).set (4 + j0) (c0 ^^^ bt) ++ joinF (m + wh + 1) (ow.drop (wh + 1)) = rr at hT hno
  have hrl : 0 < rr.length := by rw [← hrr, List.length_append, List.length_set, frameL_length]; omega
  obtain ⟨g, cap, WB, hg, hcb, hbb, hsz, cur, fz, hgb, hfz, hcur⟩ := bytes_of B w3
  have hBA : (B.data.toList.getD A 0).toNat = c0.toNat := by rw [List.getD, hF]; rfl
  obtain ⟨S, hSl, hconv⟩ := set_text WB g cap A B (c0 ^^^ bt) cur fz hgb hcur hAB
  obtain ⟨c0i, hc0i⟩ : ∃ z : Int, (c0.toNat : Int) = z := ⟨_, rfl⟩
  obtain ⟨xi, hxi⟩ : ∃ z : Int, ((c0 ^^^ bt).toNat : Int) = z := ⟨_, rfl⟩
  have rx : bits .xor .u8 c0i bi = xi := by rw [← hc0i, ← HBi.out, ← hxi]; exact u8_xor_byte _ _
  rw [hxi] at hconv
  have rcell : WB.cell? ⟨g, A, none⟩ = some (.int .u8 c0i) := by
    unfold World.cell?
    rw [hgb]
    show cur[A]? = _
    rw [hcur A hAB, hBA, hc0i]
  have rfro : WB.frozen? ⟨g, A, none⟩ = false := by
    unfold World.frozen?
    rw [hgb]
    obtain ⟨lo, hi⟩ := fz
    have hlo : B.size ≤ lo := hfz
    show (decide (lo ≤ A) && _) = false
    rw [decide_eq_false (by omega)]; rfl
  have rcv : (convert 39 9 (.slice (some ⟨g, 0, none⟩) B.size cap)).run Try.prog (WB.setCell ⟨g, A, none⟩ (.int .u8 xi)) = .ok (.string S) (WB.setCell ⟨g, A, none⟩ (.int .u8 xi)) := hconv _ (fun _ => rfl)
  have hlw : (ow.take wh).length = wh := by rw [List.length_take]; omega
  have hSl2 : S.data.toList = joinF m (ow.take wh) ++ rr := by rw [hSl, hT]
  have hSs : S.size = B.size := by rw [← str_len, hSl, List.length_set, str_len]
  have hrr2 : (!rr.isEmpty) = true := by
    cases rr with
    | nil => simp at hrl
    | cons => rfl
  have hno2 : wholeT rr ((m : Int) + (ow.take wh).length) = none := by
    rw [hlw, ← hno]; congr 1
  have sc := fun w => scan_of S m (ow.take wh) rr w hSl2 (fun q hq => hos q (List.mem_of_mem_take hq)) (by rw [hlw]; omega) hno2 (by omega) (by rw [hlw]; omega) M HMe.out.symm (fr : Int) (by rw [joinF_length, hfr]) true hrr2.symm
  rw [hlw] at sc
  obtain ⟨N, hN⟩ : ∃ N : Int, ((m + wh : Nat) : Int) = N := ⟨_, rfl⟩
  have wN : Hid (wrap64 (M + (wh : Int)) = N) := by show _ = _; rw [← hN, ← HMe.out]; unfold wrap64; omega
  have hnx : nextA S.data.toList (fr : Int) N = ([], 0, 2) := by
    unfold nextA
    have hSlen : S.data.toList.length = fr + rr.length := by rw [hSl2, List.length_append, joinF_length, hfr]
    rw [if_neg (by omega), if_neg (by omega), Int.toNat_natCast, hSl2, List.drop_left' (by rw [joinF_length, hfr]), ← hN, hno]
  have nx1 := fun w => next_any S (fr : Int) N w (by omega)
  rw [nx_of hnx nil8 rfl 0 rfl] at nx1
  have sm := fun (wx : World) (ad5 : Option Addr) (cp5 : Nat) (hx : RowAt wx ad5 ((ow.take wh).map encStr)) (hy : RowAt wx ad1 ((ow.take wh).map encStr)) (hz : wh ≤ maxLen) => same_any wx ad5 ad1 cp5 cp1 (ow.take wh) (ow.take wh) hx hy (by rw [hlw]; exact hz) (by rw [hlw]; exact hz)
  rw [hlw, beq_self_eq_true] at sm
  have SC := hide sc
  have NX := hide nx1
  have SM := hide sm
  have HConv := hide hconv
  have HRow1 := hide hrow1
  have HOl : Hid (ow.length ≤ 8796093022208) := by show _ ≤ _; omega
  have HwM : Hid (wh ≤ maxLen) := by show _ ≤ _; omega
  have HBB := hide hbb
  have HG := hide hg
  have HSz := hide hsz
  have hwc : wh ≤ cp1 := by omega
  have hend1 : ∀ k, k < ow.length → ∃ b o, ad2 = some ⟨b, o, none⟩ ∧ w3.cell? ⟨b, o + k, none⟩ = some (.int .i64 (joinLen (ow.take (k + 1)) : Int)) := fun k hk => by
    rcases hrow2 with h | ⟨b, o, rfl, hbl, hcs⟩
    · have := congrArg List.length h
      rw [List.length_map, endsL_length, List.length_nil] at this
      omega
    · exact ⟨b, o, rfl, by rw [hcs k (by rw [List.length_map, endsL_length]; exact hk), List.getElem?_map, hends k hk]; rfl⟩
  obtain ⟨b2, o2, rfl, hce⟩ := hend1 wh hwh
  rw [hen] at hce
  obtain ⟨f4, hf4⟩ : ∃ f4 : Nat, fr + 4 = f4 := ⟨_, rfl⟩
  have yA : (en : Int) - (fr : Int) = (R : Int) := by omega
  have yB : (fr : Int) + 4 = (f4 : Int) := by omega
  have yC : (R : Int) - 4 = ((R - 4 : Nat) : Int) := by omega
  have yD : (f4 : Int) + (j0 : Int) = (A : Int) := by omega
  have rA : Hid (wrap64 ((en : Int) - (fr : Int)) = (R : Int)) := wrap_at _ _ yA (by omega)
  have rB : Hid (wrap64 ((fr : Int) + 4) = (f4 : Int)) := wrap_at _ _ yB (by omega)
  have rC : Hid (wrap64 ((R : Int) - 4) = L2) := by show _ = _; rw [hmod2.hL]; exact wrap_at _ _ yC (by omega)
  have rD : Hid (wrap64 ((f4 : Int) + (j0 : Int)) = (A : Int)) := wrap_at _ _ yD (by omega)
  have g1 : (0 : Int) ≤ (A : Int) := by omega
  have g2 : (A : Int) < (B.size : Int) := by omega
  have g3 : (0 : Int) ≤ (wh : Int) := by omega
  have g4 : (wh : Int) < (ow.length : Int) := by omega
  have g5 : (wh : Int) ≤ (cp1 : Int) := by omega
  have HWh := hide hwh
  have HFr := hide hfr
  have HMod := hide hmod
  have HMod2 := hide hmod2
  have HEnd1 := hide hend1
  clear yA yB yC yD hmod hmod2 hT hno hno2 hrr hrl hrr2 hnx nx1 sc sm hSl hSl2 hSs hconv hcur hgb hfz hbb hg hsz hBA hF hj4 hc0 hends hel hfe hen hr hR hps hp hos hol hLL hMM hjl hBl hB hrow1 hrow2 hcp1 hcm1 hlw hN hA hAB hj0 hf4 hc0i hxi hwc h0 hz hend1 hfr
  have Rx := hide rx
  have Rcell := hide rcell
  have Rfro := hide rfro
  have Rcv := hide rcv
  have Hcb := hide hcb
  clear rx rcell rfro rcv hcb
  have r1 := HMod.out.e1
  have r3 := HMod.out.e3
  have r4 := HMod.out.e4
  have r5 := HMod.out.e5
  have rne := HMod.out.ne
  rw [HMod.out.hL] at r3 r4 rne
  go_upto_if 53 with fail
  rw [r5]
  clear r1 r3 r4 r5 rne
  go_cut [15] from 24 (fun s15 wx => s15 = .int .i64 (fr : Int) ∧ wx = w3)
  case first =>
    by_cases hw0 : wh = 0
    · have e0 : decide ((wh : Int) > 0) = false := decide_eq_false (by rw [hw0]; decide)
      have e1 : decide ((0 : Int) < (wh : Int)) = false := decide_eq_false (by rw [hw0]; decide)
      have e2 : decide (0 < wh) = false := decide_eq_false (by rw [hw0]; decide)
      have HE3 : Hid ((0 : Int) = (fr : Int)) := by show _ = _; rw [← HFr.out, hw0]; rfl
      clear hw0
      rw [e2]
      go_wp2_with fail
      go_meet
      exact ⟨by rw [← HE3.out], rfl⟩
    · have hwp : 0 < wh := by omega
      have e0 : decide ((wh : Int) > 0) = true := decide_eq_true (by omega)
      have e1 : decide ((0 : Int) < (wh : Int)) = true := decide_eq_true (by omega)
      have e2 : decide (0 < wh) = true := decide_eq_true hwp
      obtain ⟨k, hk⟩ : ∃ k : Nat, wh = k + 1 := ⟨wh - 1, by omega⟩
      obtain ⟨b, o, hbo, hcell⟩ := HEnd1.out k (by have := HWh.out; omega)
      cases hbo
      have hjk : joinLen (ow.take (k + 1)) = fr := by rw [← HFr.out, hk]
      rw [hjk] at hcell
      have rk : Hid (wrap64 ((wh : Int) - 1) = (k : Int)) := wrap_at _ _ (by omega) (by have := HWh.out; have := HL.out; have := HwM.out; unfold maxLen at this; omega)
      have rk2 : Hid ((wh : Int) - 1 = (k : Int)) := by show _ = _; omega
      have k0 : (0 : Int) ≤ (k : Int) := by omega
      have k1 : (k : Int) < (ow.length : Int) := by omega
      clear hw0 hk hjk
      rw [e2]
      have xk2 := rk2.out
      have wb1 : 1 ≤ wh := hwp
      have wb2 : wh ≤ 8796093022208 := by have := HWh.out; have := HOl.out; omega
      go_wp2_with fail
      go_meet
      exact ⟨rfl, rfl⟩
  case rest =>
    obtain ⟨rfl, rfl⟩ := hcut
    have c1 := HMod2.out.e1
    have c3 := HMod2.out.e3
    have c4 := HMod2.out.e4
    have c5 := HMod2.out.e5
    have cne := HMod2.out.ne
    have xA := rA.out
    have xB := rB.out
    have xC := rC.out
    have xD := rD.out
    go_upto_region 15 with fail
    rw [xD, xA]
    clear c1 c3 c4 c5 cne xA xB xC xD
    have rcb := Hcb.out
    have rx := Rx.out
    have rcell := Rcell.out
    have rfro := Rfro.out
    have rcv := Rcv.out
    go_wp2_with fail
    obtain ⟨W2, hW2⟩ : ∃ W2, WB.setCell ⟨g, A, none⟩ (.int .u8 xi) = W2 := ⟨_, rfl⟩
    have hbW : Below wc.heap.size wc W2 := by
      rw [← hW2]
      exact HBB.out.setCell (by rw [HG.out]; exact Nat.le_refl _) _
    have hgW : g < W2.heap.size := by
      rw [← hW2]
      have := HSz.out
      simp [World.setCell]; omega
    have hconv := HConv.out
    rw [hW2] at hconv ⊢
    have HConv2 := hide hconv
    clear rcb rx rcell rfro rcv hW2 hconv
    refine (SC.out _).mono ?_
    rintro e w6 ⟨ad6, cp6, rfl, ho6, hb6⟩
    obtain ⟨ad6', cp6', he6, hrow6, -, -, -⟩ := own_at ho6
    cases he6
    have hcv6 := HConv2.out w6 (fun j => World.cell?_of_block (hb6.block g hgW))
    have HB6 := hide (hbW.trans (hb6.mono hbW.size))
    have HRow6 := hide hrow6
    have wN := wN.out
    clear ho6 hrow6
    go_wp2_with fail
    (try rw [wN])
    refine (NX.out _).mono ?_
    rintro e w7 ⟨rfl, hb7⟩
    clear hcv6 wN
    have HB7 := hide (HB6.out.trans (hb7.mono HB6.out.size))
    have hr7 := HRow6.out.below hb7
    have hr1 := (HRow1.out.below HB7.out).take wh
    rw [← List.map_take] at hr1
    go_wp2_with fail
    refine (SM.out _ ad6 cp6 hr7 hr1 HwM.out).mono ?_
    rintro e w8 ⟨rfl, hb8⟩
    have HB8 := hide (HB7.out.trans (hb8.mono HB7.out.size))
    go_wp2
    go_ret
    exact ⟨rfl, HB3.out.trans (HB8.out.mono HB3.out.size)⟩
end Go.Proofs.Ytcpbcnbgcacgnaa
