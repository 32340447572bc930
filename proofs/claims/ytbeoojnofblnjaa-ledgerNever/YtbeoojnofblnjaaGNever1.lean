import Derived.Test.YtbeoojnofblnjaaGTurned
import Derived.Test.YtbeoojnofblnjaaGNeverM
/-
  LedgerViews: the walk (printed by gen_views.py).
-/
namespace Go.Proofs.Ytbeoojnofblnjaa
open Go.RowKit S Go.Shelf Go.Sort
set_option linter.unusedVariables false
set_option linter.unusedSimpArgs false
-- left out in this seat: made2
theorem Upds.keepU {S : Nat → Prop} {w w' : World} {ad : Option Addr} {l : List Upd} (h : Upds w ad l) (k : Keep S w w') (hS : ∀ x, ad = some x → ¬ S x.block) : Upds w' ad l := by
  rcases h with rfl | ⟨b, o, h1, h2, h3⟩
  · exact .inl rfl
  · refine .inr ⟨b, o, h1, Nat.lt_of_lt_of_le h2 k.size, fun i s hs j hj => ?_⟩
    have e := h3 i s hs j hj
    unfold World.cell? at e ⊢
    rw [k.block b h2 (hS _ h1)]
    exact e
theorem clamp_in {X : Int} (h0 : 0 ≤ X) (h1 : X ≤ 1152921504606846976) : clampA X = X := by
  unfold clampA
  rw [if_neg (by omega)]
  split <;> omega
theorem fold_sumP (a b : List Upd) : 0 ≤ sumP (foldL a b) := sumP_pos (fold_amt a b)
/-- Fold where all is valid: its two answers. -/
theorem foldG (bO bP : Int) (b1 : 0 ≤ bO ∧ bO ≤ 576460752303423487) (b2 : 0 ≤ bP ∧ bP ≤ 576460752303423487) (a1 a2 : Option Addr) (n1 c1 n2 c2 : Nat) (m1 m2 : List Upd) (hn1 : m1.length = n1) (hn2 : m2.length = n2) (z1 : n1 ≤ 1955000000000) (z2 : n2 ≤ 1955000000000) (k1 : n1 ≤ c1) (k2 : n2 ≤ c2) (kO kP : Nat) (lO : kO ≤ n1) (lP : kP ≤ n2) (hv1 : (m1.take kO).all validB = true) (hv2 : (m2.take kP).all validB = true) (P Q : List Upd) (hP : m1.take kO = P) (hQ : m2.take kP = Q) (X Y : Int) (hX : balX bO P Q = X) (hY : balY bP P Q = Y) :
    (0 ≤ X ∧ 0 ≤ Y → ∀ w, Upds w a1 m1 → Upds w a2 m2 → Calls Try.prog 9 #[.int .i64 bO, .int .i64 bP, .slice a1 n1 c1, .slice a2 n2 c2, .agg (tabv (cnv kO kP) 2)] w fun e w' => (∃ v, e = .returned (.tuple #[.agg (tabv (ledv X Y v) 3), .int .i64 0]) ∧ OwnP w.heap.size w' v (foldL P Q)) ∧ Below w.heap.size w w') ∧
    (¬ (0 ≤ X ∧ 0 ≤ Y) → ∀ w, Upds w a1 m1 → Upds w a2 m2 → Calls Try.prog 9 #[.int .i64 bO, .int .i64 bP, .slice a1 n1 c1, .slice a2 n2 c2, .agg (tabv (cnv kO kP) 2)] w fun e w' => e = .returned (.tuple #[.agg (tabv (ledv 0 0 (.slice none 0 0)) 3), .int .i64 130]) ∧ Below w.heap.size w w') := by
  have hpl : plusA bO bP = (bO + bP, 0) := by unfold plusA; rw [if_pos ⟨(isA_iff _).2 (by omega), (isA_iff _).2 (by omega), (isA_iff _).2 (by omega)⟩]
  have hw := bal_whole bO bP P Q
  have hf := fold_sumP P Q
  rw [hX, hY] at hw
  constructor
  · intro hxy w hS1 hS2
    have h := fold_ok bO bP a1 a2 n1 c1 n2 c2 m1 m2 hn1 hn2 z1 z2 k1 k2 kO kP lO lP w hS1 hS2 hpl (by show _ ∧ _; omega) hv1 hv2 (by show _ ≤ _; omega)
    rw [hP, hQ, hX, hY, clamp_in hxy.1 (by omega), clamp_in hxy.2 (by omega)] at h
    refine Calls.mono h ?_
    rintro e w' (⟨v, _, _, rfl, ho, hb⟩ | ⟨hc, _⟩)
    · exact ⟨⟨v, rfl, ho⟩, hb⟩
    · omega
  · intro hxy w hS1 hS2
    have h := fold_ok bO bP a1 a2 n1 c1 n2 c2 m1 m2 hn1 hn2 z1 z2 k1 k2 kO kP lO lP w hS1 hS2 hpl (by show _ ∧ _; omega) hv1 hv2 (by show _ ≤ _; omega)
    rw [hP, hQ, hX, hY] at h
    refine Calls.mono h ?_
    rintro e w' (⟨v, h1, h2, _⟩ | ⟨_, rfl, hb⟩)
    · omega
    · exact ⟨rfl, hb⟩
section
variable {ops : Array Oper} {rest : List Oper} {o : Oper} {a : Act} {w : World} {Q : Exit → Act → World → Prop}
theorem wpList_storeC (hgd : o.guard = none) (x y : Operand) (ho : o.op = .store 51 x y) (hd : o.dst = none) (g : Nat) (p q : Int) (hx : a.eval x = .pointer (some ⟨g, 0, none⟩)) (hy : a.eval y = .agg (tabv (cnv p q) 2)) (f : Nat → Value) (hg : Has w g 51 f 2)
    (hk : wpList Try.prog ops Q rest a (w.setRow g (tabv (cnv p q) 2))) : wpList Try.prog ops Q (o :: rest) a w :=
  wpList_store_part hgd 51 x y ho hd g 0 (cnv p q) 2 hx hy 51 f 2 hg (by omega) infoC (fun i _ => oneC p q i) (cnv p q) (fun i hi => by unfold splice; rw [if_pos (by omega), Nat.sub_zero]) hk
end
/-- A new variable that takes a ledger. -/
theorem newL (w : World) (x y : Int) (v : Value) : ∃ wa ws, w.alloc (.cells #[.int .i64 0, .int .i64 0, .slice none 0 0] 46) = wa ∧ Has wa w.heap.size 46 (ledv 0 0 (.slice none 0 0)) 3 ∧ wa.setRow w.heap.size (tabv (ledv x y v) 3) = ws ∧ Has ws w.heap.size 46 (ledv x y v) 3 ∧ Below w.heap.size w ws := by
  have q1 : Has (w.alloc (.cells (tabv (ledv 0 0 (.slice none 0 0)) 3) 46)) w.heap.size 46 (ledv 0 0 (.slice none 0 0)) 3 := Has.new w 46 _ 3 _ rfl
  exact ⟨_, _, by rw [zeroL], q1, rfl, q1.row _ _ rfl, below_setRow ((Below.refl w.heap.size w).alloc (Nat.le_refl _) _) (Nat.le_refl _) _⟩
theorem built_L0 : Try.prog.built 46 [] = some (tabv (ledv 0 0 (.slice none 0 0)) 3) := by kernel_rfl
-- left out in this seat: views_walk
end Go.Proofs.Ytbeoojnofblnjaa
/-
  LedgerNever: mod, adds.
-/
namespace Go.Proofs.Ytbeoojnofblnjaa
open Go.RowKit S Go.Shelf Go.Sort
set_option linter.unusedVariables false
set_option linter.unusedSimpArgs false
theorem at_nat2 (z : Int) (s : Nat) (h : 0 < s) : ∃ p : Nat, (IntKind.u64.wrap z).tmod (s : Int) = (p : Int) ∧ p < s := by
  have h0 : 0 ≤ IntKind.u64.wrap z := by simp [IntKind.wrap, IntKind.bits, IntKind.signed]; omega
  refine ⟨((IntKind.u64.wrap z).tmod (s : Int)).toNat, ?_, ?_⟩
  · rw [Int.toNat_of_nonneg (Int.tmod_nonneg _ h0)]
  · have := Int.tmod_lt_of_pos (IntKind.u64.wrap z) (show (0 : Int) < s by omega)
    have := Int.tmod_nonneg (s : Int) h0
    omega
theorem mod_any (n : Int) (m : Nat) (hm : m < 4611686018427387904) : ∃ p : Nat, p ≤ m ∧ ∀ w : World, Calls Try.prog 8 #[.int .i64 n, .int .i64 (m : Int)] w fun e w' => e = .returned (.int .i64 (p : Int)) ∧ w' = w := by
  obtain ⟨p, hp, lp⟩ := at_nat2 n (m + 1) (by omega)
  refine ⟨p, by omega, fun w => ?_⟩
  obtain ⟨U, hU⟩ : ∃ u, IntKind.u64.wrap n = u := ⟨_, rfl⟩
  rw [hU, show ((m + 1 : Nat) : Int) = (m : Int) + 1 by omega] at hp
  have z1 : IntKind.i64.wrap ((m : Int) + 1) = (m : Int) + 1 := by rw [IntKind.wrap_i64]; omega
  have z2 : IntKind.u64.wrap ((m : Int) + 1) = (m : Int) + 1 := by simp [IntKind.wrap, IntKind.bits, IntKind.signed]; omega
  have z3 : IntKind.u64.wrap (p : Int) = (p : Int) := by simp [IntKind.wrap, IntKind.bits, IntKind.signed]; omega
  have z4 : IntKind.i64.wrap (p : Int) = (p : Int) := by rw [IntKind.wrap_i64]; omega
  have hne : ¬ ((m : Int) + 1 = 0) := by omega
  go_enter Try.func8, Try.ntmps8
  go_wp2
  go_ret
  exact ⟨rfl, rfl⟩
set_option maxRecDepth 100000 in
set_option maxHeartbeats 2000000 in
theorem ladds_any (ad : Option Addr) (n cap : Nat) (l : List Upd) (hn : l.length = n) (hz : n ≤ 140737488351232) (w : World) (hS : Upds w ad l) : Calls Try.prog 14 #[.slice ad n cap] w fun e w' => e = .returned (.int .i64 (addsN l : Int)) ∧ w' = w := by
  have HN := hide hn
  have HZ := hide hz
  have hni : (n : Int) ≤ 140737488351232 := by omega
  clear hn hz
  go_enter Try.func14, Try.ntmps14
  go_wp2
  go_loopw [3, 4] (fun c i wr => ∃ j : Nat, j ≤ n ∧ i = .int .i64 (j : Int) ∧ c = .int .i64 (addsN (l.take j) : Int) ∧ wr = w) (fun _ i _ => n - (intOf i).toNat)
  case atStart => exact ⟨0, Nat.zero_le _, rfl, rfl, rfl⟩
  case round =>
    obtain ⟨j, hj, rfl, rfl, hwr⟩ := hrel
    obtain rfl := hwr.symm
    by_cases hlt : j < n
    · have hd : decide ((j : Int) < (n : Int)) = true := decide_eq_true (by omega)
      have hd2 : decide (j < n) = true := decide_eq_true hlt
      have hk0 : (0 : Int) ≤ (j : Int) := by omega
      have hk1 : (j : Int) < (n : Int) := by omega
      obtain ⟨s, hs⟩ : ∃ s, l[j]? = some s := ⟨_, List.getElem?_eq_getElem (by rw [HN.out]; exact hlt)⟩
      obtain ⟨b, o, rfl, hb1, hA⟩ := hS.get j s hs
      have HS := hide hs
      have c0 : w.cell? ⟨b, o + j * 36 + 0, none⟩ = some (.int .i64 s.kind) := hA 0 (by omega)
      rw [Nat.add_zero] at c0
      obtain ⟨K, hK⟩ : ∃ K, addsN (l.take j) = K := ⟨_, rfl⟩
      have hKj : K ≤ j := by rw [← hK]; exact Nat.le_trans (adds_le _) (by rw [List.length_take]; omega)
      have HK := hide hK
      rw [hK]
      have hKb : (K : Int) ≤ 140737488351232 := by have := HZ.out; omega
      have hK0 : (0 : Int) ≤ (K : Int) := by omega
      clear hK hKj hs hA
      cases k1 : (s.kind == 1) with
      | false =>
        go_wp2
        go_roundw
        case rel => exact ⟨j + 1, by omega, by go_num, by rw [adds_next HS.out _ k1, HK.out]; simp, by first | rfl | trivial⟩
        case measure => simp [intOf]; omega
      | true =>
        go_wp2
        go_roundw
        case rel => exact ⟨j + 1, by omega, by go_num, by rw [adds_next HS.out _ k1, HK.out, if_pos rfl]; exact int_eq (by omega), by first | rfl | trivial⟩
        case measure => simp [intOf]; omega
    · have hjn : j = n := by omega
      subst hjn
      have hd : decide ((j : Int) < (j : Int)) = false := decide_eq_false (by omega)
      have hd2 : decide (j < j) = false := decide_eq_false (by omega)
      go_wp2
      go_ret
      exact ⟨by rw [show l.take j = l from by rw [← HN.out]; exact List.take_length]; rfl, rfl⟩
end Go.Proofs.Ytbeoojnofblnjaa
