/-
  The statements' number and joined.
-/
import Derived.Test.YtcpbcnbgcacgnaaFFirst
namespace Go.Proofs.Ytcpbcnbgcacgnaa
open Go.RowKit C
set_option linter.unusedVariables false
theorem results_tmp4 {fn : Func} {t u v x : Tmp} (h : fn.results = #[.tmp t, .tmp u, .tmp v, .tmp x]) (tmps : Array Value) (P : Program) (w : World) :
    (results fn tmps).run P w = .ok (.tuple #[tmps.getD t undef, tmps.getD u undef, tmps.getD v undef, tmps.getD x undef]) w := by
  simp [results, h]
theorem and_mask (n : Int) : ∃ m : Nat, m < 1152921504606846976 ∧ bits .and .i64 n 1152921504606846975 = (m : Int) := by
  refine ⟨((BitVec.ofInt 64 n) &&& (BitVec.ofInt 64 1152921504606846975)).toNat, ?_, ?_⟩
  · rw [BitVec.toNat_and]
    have : (BitVec.ofInt 64 1152921504606846975).toNat = 1152921504606846975 := by decide
    rw [this]
    exact Nat.lt_succ_of_le Nat.and_le_right
  · have hlt : ((BitVec.ofInt 64 n) &&& (BitVec.ofInt 64 1152921504606846975)).toNat < 1152921504606846976 := by
      rw [BitVec.toNat_and]
      have : (BitVec.ofInt 64 1152921504606846975).toNat = 1152921504606846975 := by decide
      rw [this]
      exact Nat.lt_succ_of_le Nat.and_le_right
    show IntKind.i64.wrap _ = _
    rw [IntKind.wrap_i64]
    show ((((BitVec.ofInt 64 n) &&& (BitVec.ofInt 64 1152921504606846975)).toNat : Int) + 9223372036854775808) % 18446744073709551616 - 9223372036854775808 = _
    omega
theorem number_any (n : Int) : ∃ m : Nat, m < 1152921504606846976 ∧ ∀ w : World, Calls Try.prog 12 #[.int .i64 n] w fun e w' => e = .returned (.int .i64 (m : Int)) ∧ w = w' := by
  obtain ⟨m, hm, hb⟩ := and_mask n
  refine ⟨m, hm, fun w => ?_⟩
  obtain ⟨M, hM⟩ : ∃ M : Int, (m : Int) = M := ⟨_, rfl⟩
  rw [hM] at hb ⊢
  have HB := hide hb
  clear hb hM hm
  go_enter Try.func12, Try.ntmps12
  go_wp2_with (first | (refine wpList_and rfl _ _ _ _ rfl .i64 _ _ M (by rfl) (by rfl) HB.out ?_) | fail)
  go_ret
  exact ⟨rfl, rfl⟩
section
variable {P : Program} {ops : Array Oper} {rest : List Oper} {o : Oper} {a : Act} {w : World} {Q : Exit → Act → World → Prop}
theorem wpList_bin (hgd : o.guard = none) (op : BinOp) (t : TypeId) (x y : Operand) (u : TypeId) (ho : o.op = .binOp op t x y u) (X Y r : Value) (hx : a.eval x = X) (hy : a.eval y = Y) (hq : eqGuard op t x y X Y = pure ()) (hr : (binOp op t X Y).run P w = .ok r w)
    (h : wpList P ops Q rest (a.put o.dst r) w) : wpList P ops Q (o :: rest) a w := by
  refine wpList_plain hgd fun K hK => ?_
  unfold Oper.wp execOp
  simp only [ho, hx, hy, hq, hr, Sem.run_bind, Sem.run_pure, Result.andThen_ok]
  exact hK _ _ h
theorem run_rem (t : TypeId) (k : IntKind) (X Y Z : Int) (hY : Y ≠ 0) (hZ : X.tmod Y = Z) (w : World) : (binOp .rem t (.int k X) (.int k Y)).run P w = .ok (.int k Z) w := by
  rw [binOp_rem, ← hZ]
  unfold Op.intDiv
  rw [if_neg hY]
  rfl
end
theorem run_conv (s d : TypeId) (k kd : IntKind) (X Z : Int) (hs : (Try.prog.underlying s).isSome = true) (hk : Try.prog.intKind d = kd) (hd : Try.prog.underlying d = some (.int (Try.prog.intKind d))) (hZ : kd.wrap X = Z) (w : World) : (convert s d (.int k X)).run Try.prog w = .ok (.int kd Z) w := by
  have h := run_convert_int (P := Try.prog) (w := w) s d k X hs hd
  rw [hk, hZ] at h
  exact h
/-- int(uint(X) % uint(n)), as rules of a walk. -/
structure Modded (X : Int) (n : Nat) (U L C : Int) : Prop where
  hL : L = (n : Int)
  e1 : IntKind.u64.wrap X = U
  e3 : IntKind.u64.wrap L = L
  e4 : U.tmod L = C
  e5 : wrap64 C = C
  ne : ¬ L = 0
theorem wrap_u64' (X : Int) : IntKind.u64.wrap X = X % 18446744073709551616 := by simp [IntKind.wrap, IntKind.bits, IntKind.signed]
theorem modded (X : Int) (n : Nat) (h0 : 0 < n) (h1 : n < 9223372036854775808) : ∃ (U L : Int) (c : Nat), c < n ∧ Modded X n U L (c : Int) := by
  obtain ⟨u, hu⟩ : ∃ u : Nat, X % 18446744073709551616 = (u : Int) := ⟨(X % 18446744073709551616).toNat, by omega⟩
  have hlt : u % n < n := Nat.mod_lt _ h0
  refine ⟨(u : Int), (n : Int), u % n, hlt, rfl, by rw [wrap_u64', hu], by rw [wrap_u64']; omega, by rw [Int.tmod_eq_emod_of_nonneg (by omega)]; rfl, ?_, by omega⟩
  generalize u % n = c at hlt
  unfold wrap64; omega
def small (p : Key) : Bool := decide (p.length ≤ 65536)
def joinLen (ps : List Key) : Nat := (ps.map fun p => room p.length).sum
theorem joinF_length : ∀ (ps : List Key) (n : Nat), (joinF n ps).length = joinLen ps
  | [], _ => rfl
  | p :: ps, n => by
    simp only [joinF, List.length_append, frameL_length, joinF_length ps (n + 1), joinLen, List.map_cons, List.sum_cons]
theorem joinLen_snoc (ps : List Key) (p : Key) : joinLen (ps ++ [p]) = joinLen ps + room p.length := by simp [joinLen]
theorem joinLen_append (ps qs : List Key) : joinLen (ps ++ qs) = joinLen ps + joinLen qs := by simp [joinLen]
theorem joinLen_le : ∀ (ps : List Key), (∀ p ∈ ps, p.length ≤ 65536) → joinLen ps ≤ 65616 * ps.length
  | [], _ => by simp [joinLen]
  | p :: ps, h => by
    have h1 := joinLen_le ps (fun q hq => h q (by simp [hq]))
    have h2 := room_ge p.length
    have h3 := h p (by simp)
    have e : joinLen (p :: ps) = room p.length + joinLen ps := by simp [joinLen]
    rw [e, List.length_cons]
    omega
/-- Where each frame ends. -/
def endsL (ps : List Key) : List Nat := (List.range ps.length).map fun i => joinLen (ps.take (i + 1))
theorem endsL_length (ps : List Key) : (endsL ps).length = ps.length := by simp [endsL]
theorem endsL_snoc (ps : List Key) (p : Key) : endsL (ps ++ [p]) = endsL ps ++ [joinLen ps + room p.length] := by
  unfold endsL
  rw [List.length_append, List.length_singleton, List.range_succ, List.map_append]
  congr 1
  · apply List.map_congr_left
    intro i hi
    have := List.mem_range.1 hi
    rw [List.take_append_of_le_length (by omega)]
  · simp only [List.map_cons, List.map_nil]
    rw [List.take_of_length_le (by simp), joinLen_snoc]
theorem small_mem {ks : List Key} {p : Key} (h : p ∈ ks.filter small) : p.length ≤ 65536 := by
  have := (List.mem_filter.1 h).2
  simpa [small] using this
theorem filter_snoc (ks : List Key) (k : Nat) (h : k < ks.length) : (ks.take (k + 1)).filter small = (ks.take k).filter small ++ if small ks[k] then [ks[k]] else [] := by
  rw [List.take_succ_eq_append_getElem h, List.filter_append]
  congr 1
  cases hs : small ks[k] <;> simp [List.filter, hs]
set_option maxRecDepth 8000 in
set_option maxHeartbeats 4000000 in
theorem joined_any (m : Nat) (ks : List Key) (ad : Option Addr) (cp : Nat) (w : World) (hm : m < 1152921504606846976) (hl : ks.length * 16 ≤ 140737488355328) (hr : RowAt w ad (ks.map encStr)) :
    Calls Try.prog 13 #[.slice ad ks.length cp, .int .i64 (m : Int)] w fun e w' => ∃ (B : ByteArray) (v1 v2 : Value), e = .returned (.tuple #[.string B, v1, v2, .bool true]) ∧ B.data.toList = joinF m (ks.filter small) ∧
      w'.ownsRow w.heap.size 9 1 v1 (ks.filter small).length ((ks.filter small).map encStr) ∧ w'.ownsRow w.heap.size 3 1 v2 (ks.filter small).length ((endsL (ks.filter small)).map encInt) ∧ Below w.heap.size w w' := by
  have HM := hide hm
  have HL := hide hl
  have HR := hide hr
  obtain ⟨M, hM⟩ : ∃ M : Int, (m : Int) = M := ⟨_, rfl⟩
  have HMM := hide hM
  rw [hM]
  have hll : ks.length ≤ 8796093022208 := by omega
  clear hm hl hr hM
  go_enter Try.func13, Try.ntmps13
  go_wp2
  go_loopw [8, 9, 10, 11] (fun vb vo ve vi wr => ∃ (k : Nat) (B : ByteArray), k ≤ ks.length ∧ vi = .int .i64 (k : Int) ∧ vb = .string B ∧ B.data.toList = joinF m ((ks.take k).filter small) ∧
    wr.ownsRow w.heap.size 9 1 vo ((ks.take k).filter small).length (((ks.take k).filter small).map encStr) ∧ wr.ownsRow w.heap.size 3 1 ve ((ks.take k).filter small).length ((endsL ((ks.take k).filter small)).map encInt) ∧ (∀ b, vo.ownBlock = some b → ve.ownBlock ≠ some b) ∧ Below w.heap.size w wr) (fun _ _ _ vi _ => ks.length - (intOf vi).toNat)
  case atStart =>
    exact ⟨0, ⟨#[]⟩, Nat.zero_le _, rfl, rfl, rfl, World.ownsRow_nil w _ 9 1, World.ownsRow_nil w _ 3 1, fun b h => (by cases h), Below.refl _ _⟩
  case round =>
    obtain ⟨k, B, hk, rfl, rfl, hB, ho1, ho2, hap, hbw⟩ := hrel
    have HO1 := hide ho1
    have HO2 := hide ho2
    have HAp := hide hap
    have HB := hide hB
    have HBw := hide hbw
    clear hB ho1 ho2 hap hbw
    by_cases hlt : k < ks.length
    · have dk : decide ((k : Int) < (ks.length : Int)) = true := decide_eq_true (by omega)
      have hk0 : (0 : Int) ≤ (k : Int) := by omega
      have hk1 : (k : Int) < (ks.length : Int) := by omega
      rcases HR.out with h | ⟨b, o, rfl, hbl, hcs⟩
      · rw [List.map_eq_nil_iff.1 h] at hlt; exact absurd hlt (by simp)
      have HF := hide (filter_snoc ks k hlt)
      have f0 : wr.cell? ⟨b, o + k, none⟩ = some (.string ⟨ks[k].toArray⟩) := by rw [World.cell?_of_block (HBw.out.block b hbl), hcs k (by simpa using hlt), List.getElem?_map, List.getElem?_eq_getElem hlt]; rfl
      obtain ⟨p, hp⟩ : ∃ p, ks[k] = p := ⟨_, rfl⟩
      rw [hp] at f0 HF
      obtain ⟨P, hP⟩ : ∃ P : ByteArray, (⟨p.toArray⟩ : ByteArray) = P := ⟨_, rfl⟩
      rw [hP] at f0
      have hPl : P.data.toList = p := by rw [← hP]
      have hPs : P.size = p.length := by rw [← str_len, hPl]
      by_cases hbig : 65536 < P.size
      · have b1 : decide ((P.size : Int) > 65536) = true := decide_eq_true (by omega)
        have b2 : decide ((65536 : Int) < (P.size : Int)) = true := decide_eq_true (by omega)
        have b3 : decide (65536 < P.size) = true := decide_eq_true hbig
        have hF2 : (ks.take (k + 1)).filter small = (ks.take k).filter small := by
          rw [HF.out, if_neg (by simp [small]; omega), List.append_nil]
        have HF2 := hide hF2
        clear hF2 hbig hPs hPl hP hp hcs
        go_wp2
        go_roundw
        case rel =>
          refine ⟨k + 1, B, by omega, by go_num, rfl, ?_, ?_, ?_, HAp.out, HBw.out⟩
          · rw [HF2.out]; exact HB.out
          · rw [HF2.out]; exact HO1.out
          · rw [HF2.out]; exact HO2.out
        case measure => simp [intOf]; omega
      · have hps : p.length ≤ 65536 := by omega
        obtain ⟨R, hR⟩ : ∃ R : Nat, room p.length = R := ⟨_, rfl⟩
        have hrg := room_ge p.length
        rw [hR, ← hPs] at hrg
        have b1 : decide ((P.size : Int) > 65536) = false := decide_eq_false (by omega)
        have b2 : decide ((65536 : Int) < (P.size : Int)) = false := decide_eq_false (by omega)
        have b3 : decide (65536 < P.size) = false := decide_eq_false hbig
        obtain ⟨ow, how⟩ : ∃ ow, (ks.take k).filter small = ow := ⟨_, rfl⟩
        have HF2 : Hid ((ks.take (k + 1)).filter small = ow ++ [p]) := by
          show _ = _
          rw [HF.out, if_pos (by simpa [small] using hps), how]
        rw [how] at HB HO1 HO2
        have hol : ow.length ≤ k := by
          rw [← how]
          exact Nat.le_trans (List.length_filter_le _ _) (List.length_take_le _ _)
        have hos : ∀ q ∈ ow, q.length ≤ 65536 := fun q hq => small_mem (by rw [how]; exact hq)
        obtain ⟨N, hN⟩ : ∃ N : Int, M + (ow.length : Int) = N := ⟨_, rfl⟩
        have hmm := HM.out
        have hMM := HMM.out
        have hNm : N = ((m + ow.length : Nat) : Int) := by omega
        have fa := fun w => frame_ok (m + ow.length) P w (by omega) (by omega)
        rw [← hNm, hPl] at fa
        obtain ⟨F, hF⟩ : ∃ F : ByteArray, F = ⟨(frameL (m + ow.length) p).toArray⟩ := ⟨_, rfl⟩
        rw [← hF] at fa
        have hFl : F.data.toList = frameL (m + ow.length) p := by rw [hF]
        have hFs : F.size = R := by rw [← str_len, hFl, frameL_length, hR]
        have hBs : B.size ≤ 65616 * ow.length := by
          rw [← str_len, HB.out, joinF_length]
          exact joinLen_le ow hos
        have FA := hide fa
        obtain ⟨G, hadd, hG⟩ := add_texts B F (by omega)
        have hGl : G.data.toList = joinF m (ow ++ [p]) := by rw [hG, HB.out, hFl, joinF_snoc]
        have hGs : G.size = joinLen ow + room p.length := by rw [← str_len, hGl, joinF_length, joinLen_snoc]
        have HGl := hide hGl
        have HGs := hide hGs
        have HP := hide hP
        have wN : wrap64 (M + (ow.length : Int)) = N := by rw [hN]; unfold wrap64; omega
        have hFs' : (F.size : Int) = (R : Int) := by rw [hFs]
        have t1 : ((R : Int) % 64 == 0) = true := beq_iff_eq.2 (by omega)
        have t2 : Int.tmod (R : Int) 64 = 0 := by rw [Int.tmod_eq_emod_of_nonneg (by omega)]; omega
        have t3 : decide ((R : Int) < 16 + (P.size : Int)) = false := decide_eq_false (by omega)
        have t4 : decide ((R : Int) ≥ 80 + (P.size : Int)) = false := decide_eq_false (by omega)
        have t5 : decide (80 + (P.size : Int) ≤ (R : Int)) = false := decide_eq_false (by omega)
        have hP5 : P.size ≤ 65536 := by omega
        have H16 : Hid ((ow.length + 1) * 16 ≤ 140737488355328) := by show _ ≤ _; have := HL.out; omega
        have H8 : Hid ((ow.length + 1) * 8 ≤ 140737488355328) := by show _ ≤ _; have := HL.out; omega
        have hsz := HBw.out.size
        obtain ⟨ado, co, rfl, _, _, _, _⟩ := own_at HO1.out
        obtain ⟨ade, ce, rfl, _, _, _, _⟩ := own_at HO2.out
        clear hbig hPs hPl hp hcs hps hR hrg how hos hNm fa hF hFl hFs hBs hG hGl hGs hP hN hmm hMM
        go_wp2_with fail
        refine (FA.out _).mono ?_
        rintro e w1 ⟨rfl, hb1⟩
        have f1 : w1.cell? ⟨b, o + k, none⟩ = some (.string P) := by
          rw [World.cell?_of_block (hb1.block b (World.block_lt_of_cell? _ _ f0))]
          exact f0
        have ho1 := row_below HO1.out hb1
        have HO2' := hide (row_below HO2.out hb1)
        have HB1 := hide (HBw.out.trans (hb1.mono hsz))
        have HZ := hide (show w.heap.size ≤ w1.heap.size from HB1.out.size)
        go_wp2_with (at_builtin; first | (refine wpList_append_one rfl _ _ 29 9 _ 16 rfl Try.underlying29 info9 rfl w.heap.size _ ow.length (ow.map encStr) (.string P) rfl (by rfl) ho1 (by rfl) rfl H16.out (by decide) HZ.out ?_; intro g2 c2 w2 hn2 hM2; have ho2 := row_apart HO2'.out hM2 (fun b h e => HAp.out b e h); have hz2 := Nat.le_trans HZ.out hM2.gr.size) | (refine wpList_append_one rfl _ _ 31 3 _ 8 rfl Try.underlying31 info3 rfl w.heap.size _ ow.length ((endsL ow).map encInt) (.int .i64 (G.size : Int)) rfl (by rfl) ho2 (by rfl) rfl H8.out (by decide) hz2 ?_; intro g3 c3 w3 hn3 hM3))
        go_roundw
        case rel =>
          refine ⟨k + 1, G, by omega, by go_num, rfl, ?_, ?_, ?_, ?_, ?_⟩
          · rw [HF2.out]; exact HGl.out
          · rw [HF2.out, List.length_append, List.length_singleton, List.map_append]
            have e : [p].map encStr = [.string P] := by rw [← HP.out]; rfl
            rw [e]
            refine row_apart hn2 hM3 (fun b hb he => ?_)
            rcases hM2.own b hb with h1 | h1
            · exact HAp.out b h1 he
            · have := (World.ownsRow.lt HO2'.out b he).2
              omega
          · rw [HF2.out, List.length_append, List.length_singleton, endsL_snoc, List.map_append]
            have e : [joinLen ow + room p.length].map encInt = [.int .i64 (G.size : Int)] := by rw [← HGs.out]; rfl
            rw [e]
            exact hn3
          · intro b hb he
            have hlt2 := (World.ownsRow.lt hn2 b hb).2
            rcases hM3.own b he with h1 | h1
            · rcases hM2.own b hb with h2 | h2
              · exact HAp.out b h2 h1
              · have := (World.ownsRow.lt HO2'.out b h1).2
                omega
            · omega
          · exact (HB1.out.trans (hM2.below (World.ownsRow.lt ho1 · · |>.1) HZ.out)).trans (hM3.below (World.ownsRow.lt ho2 · · |>.1) hz2)
        case measure => simp [intOf]; omega
    · have hkl : k = ks.length := by omega
      subst hkl
      have dk : decide ((ks.length : Int) < (ks.length : Int)) = false := decide_eq_false (by omega)
      have e := List.take_length (l := ks)
      have HE := hide e
      clear e
      go_wp2
      (try simp only [Exit.inBlock, Exit.then])
      refine bodyPost_ret (results_tmp4 rfl _ _ _) rfl ?_
      refine ⟨B, _, _, rfl, ?_, ?_, ?_, HBw.out⟩
      · have := HB.out; rwa [HE.out] at this
      · have := HO1.out; rwa [HE.out] at this
      · have := HO2.out; rwa [HE.out] at this
end Go.Proofs.Ytcpbcnbgcacgnaa
