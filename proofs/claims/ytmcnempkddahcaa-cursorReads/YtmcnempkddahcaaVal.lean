/-
  The statements' values: kind, text, long.
-/
import Derived.Test.YtmcnempkddahcaaHashRead
import Derived.Test.YtmcnempkddahcaaWant
namespace Go.Proofs.Ytmcnempkddahcaa
open Go.RowKit
structure VL where
  K : Int
  U : Int
  I : Int
  h : Nat → UInt8
  S : ByteArray
  T : Int
def vv (V : VL) : Nat → Value := fun i => if i = 0 then .int .i64 V.K else if i = 1 then .int .u64 V.U else if i = 2 then .int .i64 V.I else if i < 35 then .int .u8 ((V.h (i - 3)).toNat : Int) else if i = 35 then .string V.S else .int .i64 V.T
/-- Numbers that fit their kinds; a text of bounded length. -/
structure VL.ok (V : VL) (x : Nat) : Prop where
  u : V.U = (x : Int)
  ux : x < 18446744073709551616
  i0 : -9223372036854775808 ≤ V.I
  i1 : V.I < 9223372036854775808
  s : V.S.size ≤ 1048576
theorem vcells {w : World} {g : Nat} {V : VL} (h : Has w g 56 (vv V) 37) : w.cell? ⟨g, 0, none⟩ = some (.int .i64 V.K) ∧ w.cell? ⟨g, 1, none⟩ = some (.int .u64 V.U) ∧ w.cell? ⟨g, 2, none⟩ = some (.int .i64 V.I) ∧ w.cell? ⟨g, 35, none⟩ = some (.string V.S) ∧ w.cell? ⟨g, 36, none⟩ = some (.int .i64 V.T) :=
  ⟨h.cell 0 (by omega), h.cell 1 (by omega), h.cell 2 (by omega), h.cell 35 (by omega), h.cell 36 (by omega)⟩
def kd (K : Int) : Int := bits .and .i64 K 7
theorem kd_range (K : Int) : 0 ≤ kd K ∧ kd K ≤ 7 := by
  unfold kd
  have e : bits .and .i64 K 7 = IntKind.i64.wrap ((BitVec.ofInt 64 K &&& BitVec.ofInt 64 7).toNat : Int) := rfl
  rw [e]
  have h : (BitVec.ofInt 64 K &&& BitVec.ofInt 64 7).toNat ≤ 7 := by
    rw [BitVec.toNat_and]
    exact Nat.le_trans Nat.and_le_right (by decide)
  rw [IntKind.wrap_i64]
  omega
theorem run_and (t : TypeId) (K : Int) (w : World) : (binOp .and t (.int .i64 K) (.int .i64 7)).run Try.prog w = .ok (.int .i64 (kd K)) w := by
  rw [binOp_and, intBits_and]; rfl
set_option maxRecDepth 5000 in
set_option maxHeartbeats 1000000 in
theorem valKind (V : VL) (w : World) : Calls Try.prog 56 #[.agg (tabv (vv V) 37)] w fun e w' => e = .returned (.int .i64 (kd V.K)) ∧ Below w.heap.size w w' := by
  have g0 := Has.new w 56 (vv V) 37 _ rfl
  have c0 := (vcells g0).1
  have gb := (Below.refl w.heap.size w).alloc (Nat.le_refl _) (.cells (tabv (vv V) 37) 56)
  have HG := hide gb
  obtain ⟨k, hk⟩ : ∃ k, kd V.K = k := ⟨_, rfl⟩
  have HA : Hid (∀ w : World, (binOp .and 3 (.int .i64 V.K) (.int .i64 7)).run Try.prog w = .ok (.int .i64 k) w) := fun w => by rw [← hk]; exact run_and 3 V.K w
  rw [hk]
  clear g0 gb hk
  go_enter Try.func56, Try.ntmps56
  go_wp2_with (refine wpW_bin .and _ _ _ _ rfl (.int .i64 V.K) (.int .i64 7) (.int .i64 k) (by rfl) (by rfl) (by rfl) rfl (HA.out _) ?_)
  go_ret
  exact ⟨rfl, HG.out⟩
theorem isEmpty_of {s : ByteArray} (h0 : s.size ≠ 0) : s.toList.isEmpty = false := by
  rw [Bool.eq_false_iff]
  intro hc
  apply h0
  rw [List.isEmpty_iff] at hc
  have := congrArg List.length hc
  simpa [ByteArray.toList_eq, str_len] using this
theorem wpList_load_want {P : Program} {ops : Array Oper} {rest : List Oper} {o : Oper} {a : Act} {w : World} {Q : Exit → Act → World → Prop} (hw : Region.wanted o (yielded ops a.tmps) = true) (ty : TypeId) (x : Operand) (ho : o.op = .load ty x)
    (g of : Nat) (hx : a.eval x = .pointer (some ⟨g, of, none⟩)) (t : TypeId) (f : Nat → Value) (M m : Nat) (d : TypeDesc) (hg : Has w g t f M) (hm : of + m ≤ M)
    (hu : P.underlying ty = some d) (hd : (match d with | .struct _ | .array _ _ => true | _ => false) = true) (hi : (P.info? ty).map (·.size) = some m)
    (f' : Nat → Value) (hf : ∀ i, i < m → f (of + i) = f' i)
    (h : wpList P ops Q rest (a.put o.dst (.agg (tabv f' m))) w) : wpList P ops Q (o :: rest) a w :=
  wpList_step fun K hK => by rw [if_pos hw]; exact wp_load_part ty x ho g of hx t f M m d hg hm hu hd hi (hK _ _ (by rw [tabv_congr _ f' m hf]; exact h))
def textGo (S : ByteArray) (T : Int) : Nat → Int → ByteArray → ByteArray
  | 0, _, s => s
  | n + 1, i, s => if i < T ∧ s.size < 70000 ∧ s.size ≠ 0 then textGo S T n (i + 1) (s ++ S) else s
def textOf (V : VL) : ByteArray := textGo V.S V.T 70000 1 V.S
theorem textGo_size (S : ByteArray) (T : Int) : ∀ (n : Nat) (i : Int) (s : ByteArray), s.size ≤ 70000 + S.size → (textGo S T n i s).size ≤ 70000 + S.size
  | 0, _, s, h => h
  | n + 1, i, s, h => by
    unfold textGo
    split
    · exact textGo_size S T n _ _ (by rw [ByteArray.size_append]; omega)
    · exact h
theorem textOf_size (V : VL) : (textOf V).size ≤ 70000 + V.S.size := textGo_size _ _ _ _ _ (by omega)
theorem textGo_stop (S : ByteArray) (T : Int) (n : Nat) (i : Int) (s : ByteArray) (h : ¬ (i < T ∧ s.size < 70000 ∧ s.size ≠ 0)) : textGo S T n i s = s := by
  cases n with
  | zero => rfl
  | succ n => unfold textGo; rw [if_neg h]
set_option maxRecDepth 5000 in
set_option maxHeartbeats 2000000 in
theorem valText (V : VL) (w : World) (hS : V.S.size ≤ 1048576) : Calls Try.prog 58 #[.agg (tabv (vv V) 37)] w fun e w' => e = .returned (.string (textOf V)) ∧ Below w.heap.size w w' := by
  have g0 := Has.new w 56 (vv V) 37 _ rfl
  have gb := (Below.refl w.heap.size w).alloc (Nat.le_refl _) (.cells (tabv (vv V) 37) 56)
  obtain ⟨_, _, _, c3, c4⟩ := vcells g0
  have HG := hide gb
  obtain ⟨K, U, I, h, S, T⟩ := V
  simp only at c3 c4 hS
  obtain ⟨R, hR⟩ : ∃ R, textOf ⟨K, U, I, h, S, T⟩ = R := ⟨_, rfl⟩
  rw [hR]
  have hR2 : textGo S T 70000 1 S = R := hR
  have HR := hide hR2
  clear hR hR2 g0 gb
  go_enter Try.func58, Try.ntmps58
  go_wp2
  go_loop [3, 4] (fun x y => ∃ (n : Nat) (s : ByteArray), n ≤ 70000 ∧ x = .string s ∧ y = .int .i64 (70001 - (n : Int)) ∧ textGo S T n (70001 - (n : Int)) s = R ∧ 70000 ≤ n + s.size + (if s.size = 0 then 70000 else 0) ∧ s.size ≤ 70000 + S.size ∧ (s.size ≠ 0 → S.size ≠ 0)) (fun _ y => (70001 - intOf y).toNat)
  case atStart => exact ⟨70000, S, by omega, rfl, rfl, HR.out, by omega, by omega, fun h => h⟩
  case round =>
    obtain ⟨n, s, hn, rfl, rfl, hg, hf, hz, he⟩ := hrel
    obtain ⟨i, hi⟩ : ∃ i : Int, 70001 - (n : Int) = i := ⟨_, rfl⟩
    have hi1 : 1 ≤ i := by omega
    have hi2 : i ≤ 70001 := by omega
    rw [hi] at hg ⊢
    have HGo := hide hg
    have HI := hide hi
    clear hg hi
    by_cases hc : i < T ∧ s.size < 70000 ∧ s.size ≠ 0
    · obtain ⟨h1, h2, h3⟩ := hc
      have hb := isEmpty_of h3
      have hd1 : decide (i < T) = true := decide_eq_true h1
      have hd2 : decide ((s.size : Int) < 70000) = true := decide_eq_true (by omega)
      have hsum : s.size + S.size ≤ 9223372036854775807 := by omega
      rw [if_neg h3] at hf
      have he' := he h3
      obtain ⟨m, rfl⟩ : ∃ m, n = m + 1 := ⟨n - 1, by omega⟩
      have hg2 : textGo S T m (i + 1) (s ++ S) = R := by
        have := HGo.out
        unfold textGo at this
        rw [if_pos ⟨h1, h2, h3⟩] at this
        exact this
      have HG2 := hide hg2
      have hsa : (s ++ S).size = s.size + S.size := ByteArray.size_append ..
      have HSA := hide hsa
      clear hg2 HGo hsa
      go_wp2
      go_round
      case rel =>
        have hI := HI.out
        refine ⟨m, s ++ S, by omega, rfl, by rw [show i + 1 = 70001 - (m : Int) by omega], ?_, ?_, by rw [HSA.out]; omega, fun _ => he'⟩
        · rw [show (70001 : Int) - (m : Int) = i + 1 by omega]; exact HG2.out
        · rw [HSA.out, if_neg (by omega)]; omega
      case measure => have hI := HI.out; simp [intOf]; omega
    · have hRs : s = R := by rw [← HGo.out, textGo_stop _ _ _ _ _ hc]
      subst hRs
      clear HGo hf
      by_cases h1 : i < T
      · have hd1 : decide (i < T) = true := decide_eq_true h1
        by_cases h2 : s.size < 70000
        · have hd2 : decide ((s.size : Int) < 70000) = true := decide_eq_true (by omega)
          have h0 : s.size = 0 := by
            rcases Nat.eq_zero_or_pos s.size with h | h
            · exact h
            · exact absurd ⟨h1, h2, by omega⟩ hc
          have e := empty_of_size h0
          subst e
          go_wp2
          go_ret
          exact ⟨rfl, HG.out⟩
        · have hd2 : decide ((s.size : Int) < 70000) = false := decide_eq_false (by omega)
          go_wp2
          go_ret
          exact ⟨rfl, HG.out⟩
      · have hd1 : decide (i < T) = false := decide_eq_false h1
        go_wp2
        go_ret
        exact ⟨rfl, HG.out⟩
def longB (V : VL) : Bool := decide (kd V.K = 6) && decide (65535 < (textOf V).size)
set_option maxRecDepth 5000 in
set_option maxHeartbeats 2000000 in
theorem valLong (V : VL) (w : World) (hS : V.S.size ≤ 1048576) : Calls Try.prog 31 #[.agg (tabv (vv V) 37)] w fun e w' => e = .returned (.bool (longB V)) ∧ Below w.heap.size w w' := by
  have g0 := Has.new w 56 (vv V) 37 _ rfl
  have gb := (Below.refl w.heap.size w).alloc (Nat.le_refl _) (.cells (tabv (vv V) 37) 56)
  have HG := hide gb
  have HH := hide g0
  have HK := hide (valKind V)
  have HT := hide (fun w => valText V w hS)
  have hz := textOf_size V
  obtain ⟨k, hk⟩ : ∃ k, kd V.K = k := ⟨_, rfl⟩
  obtain ⟨t, ht⟩ : ∃ t, textOf V = t := ⟨_, rfl⟩
  unfold longB
  rw [ht] at hz HT ⊢
  rw [hk] at HK ⊢
  clear g0 gb hk ht
  by_cases h6 : k = 6
  · subst h6
    have HL : Hid ((decide ((6 : Int) = 6) && decide (65535 < t.size)) = decide ((t.size : Int) > 65535)) := by
      show _ = _
      rw [decide_eq_true rfl, Bool.true_and]; congr 1; simp; omega
    rw [HL.out]
    obtain ⟨r, hr⟩ : ∃ r : Bool, decide ((t.size : Int) > 65535) = r := ⟨_, rfl⟩
    rw [hr]
    go_enter Try.func31, Try.ntmps31
    go_wp2_with (refine wpList_load_part rfl 56 _ rfl w.heap.size 0 rfl 56 _ 37 37 _ HH.out (by omega) Try.underlying56 rfl info56 (vv V) (fun i _ => by rw [Nat.zero_add]) ?_)
    refine (HK.out _).mono ?_
    rintro e w1 ⟨rfl, hb1⟩
    have HH1 := hide (HH.out.below hb1 HH.out.lt)
    go_wp2_with (first | (refine wpList_load_want (by rfl) 56 _ rfl w.heap.size 0 rfl 56 _ 37 37 _ HH1.out (by omega) Try.underlying56 rfl info56 (vv V) (fun i _ => by rw [Nat.zero_add]) ?_) | fail)
    refine (HT.out _).mono ?_
    rintro e w2 ⟨rfl, hb2⟩
    go_wp2
    go_ret
    have k1 := HG.out.trans (hb1.mono HG.out.size)
    exact ⟨rfl, k1.trans (hb2.mono k1.size)⟩
  · have hq : (k == 6) = false := beq_eq_false_iff_ne.2 h6
    rw [decide_eq_false h6, Bool.false_and]
    go_enter Try.func31, Try.ntmps31
    go_wp2_with (refine wpList_load_part rfl 56 _ rfl w.heap.size 0 rfl 56 _ 37 37 _ HH.out (by omega) Try.underlying56 rfl info56 (vv V) (fun i _ => by rw [Nat.zero_add]) ?_)
    refine (HK.out _).mono ?_
    rintro e w1 ⟨rfl, hb1⟩
    go_wp2
    go_ret
    exact ⟨rfl, HG.out.trans (hb1.mono HG.out.size)⟩
end Go.Proofs.Ytmcnempkddahcaa
