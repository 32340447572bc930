/-
  Fold, the code's and the document's, as one answer (printed by gen_foldu.py).
-/
import Derived.Test.YtbeoojnofblnjaaGRFold2
import Derived.Test.YtbeoojnofblnjaaGFold2
namespace Go.Proofs.Ytbeoojnofblnjaa
open Go.RowKit S Go.Shelf Go.Sort
set_option linter.unusedVariables false
set_option linter.unusedSimpArgs false
set_option maxRecDepth 100000 in
set_option maxHeartbeats 4000000 in
theorem fold_out1 (bO bP : Int) (a1 a2 : Option Addr) (n1 c1 n2 c2 : Nat) (fO fP : Int) (w : World) (hc : ¬ (0 ≤ fO ∧ fO ≤ (n1 : Int))) : Calls Try.prog 9 #[.int .i64 bO, .int .i64 bP, .slice a1 n1 c1, .slice a2 n2 c2, .agg (tabv (cnv fO fP) 2)] w fun e w' => e = .returned (.tuple #[.agg (tabv (ledv 0 0 (.slice none 0 0)) 3), .int .i64 1]) ∧ Below w.heap.size w w' := by
  obtain ⟨I1, hI1⟩ : ∃ k, ((inL fO n1 : Nat) : Int) = k := ⟨_, rfl⟩
  obtain ⟨I2, hI2⟩ : ∃ k, ((inL fP n2 : Nat) : Int) = k := ⟨_, rfl⟩
  have HO := hide (fun w => within_any fO a1 n1 c1 w)
  have HP := hide (fun w => within_any fP a2 n2 c2 w)
  rw [hI1] at HO
  rw [hI2] at HP
  have qO : (fO != I1) = true := by rw [bne_iff_ne, ← hI1]; exact fun e => hc ((inL_eq fO n1).1 e.symm)
  clear hI1 hI2 hc
  obtain ⟨V1, V2, hV1, hV2, q1, q2, hlt, gb⟩ := rf_start w fO fP
  have hge : w.heap.size ≤ V1.heap.size := Nat.le_of_lt hlt
  obtain ⟨g9, hg9⟩ : ∃ g, w.heap.size = g := ⟨_, rfl⟩
  obtain ⟨gR, hgR⟩ : ∃ g, V1.heap.size = g := ⟨_, rfl⟩
  rw [hg9] at q1
  rw [hgR] at q2 hge
  have f0 : V2.cell? ⟨g9, 0, none⟩ = some (.int .i64 fO) := q1.cell 0 (by omega)
  have f1 : V2.cell? ⟨g9, 1, none⟩ = some (.int .i64 fP) := q1.cell 1 (by omega)
  have Q2 := hide q2
  have GE := hide hge
  clear q1 q2 hlt hge
  go_enter Try.func9, Try.ntmps9
  go_wp2_with fail
  go_quiet ((go_at_call 17; exact Calls.quiet_of_same (HO.out _)))
  have G3 : Hid (Has (V2.drewN nq) gR 46 (ledv 0 0 (.slice none 0 0)) 3) := Q2.out
  have b3 : Below w.heap.size w (V2.drewN nq) := belowD gb nq
  generalize V2.drewN nq = w3 at G3 b3 ⊢
  go_wp2_with (first | refine wpW_build (by rfl) 46 #[] rfl [] rfl _ built_L0 ?_ | refine wpList_storeL rfl _ _ rfl rfl gR 0 0 (.slice none 0 0) rfl rfl rfl _ G3.out ?_)
  exact bodyPost_ret (resL2 _ gR _ _ (.int .i64 1) 10 11 (G3.out.row _ (ledv 0 0 (.slice none 0 0)) rfl) rfl rfl _ rfl) rfl ⟨rfl, by first | exact below_setRow b3 GE.out _ | (rw [← hg9]; exact below_setRow b3 GE.out _)⟩
set_option maxRecDepth 100000 in
set_option maxHeartbeats 4000000 in
theorem fold_out2 (bO bP : Int) (a1 a2 : Option Addr) (n1 c1 n2 c2 : Nat) (fO fP : Int) (w : World) (ho : 0 ≤ fO ∧ fO ≤ (n1 : Int)) (hc : ¬ (0 ≤ fP ∧ fP ≤ (n2 : Int))) : Calls Try.prog 9 #[.int .i64 bO, .int .i64 bP, .slice a1 n1 c1, .slice a2 n2 c2, .agg (tabv (cnv fO fP) 2)] w fun e w' => e = .returned (.tuple #[.agg (tabv (ledv 0 0 (.slice none 0 0)) 3), .int .i64 1]) ∧ Below w.heap.size w w' := by
  obtain ⟨I1, hI1⟩ : ∃ k, ((inL fO n1 : Nat) : Int) = k := ⟨_, rfl⟩
  obtain ⟨I2, hI2⟩ : ∃ k, ((inL fP n2 : Nat) : Int) = k := ⟨_, rfl⟩
  have HO := hide (fun w => within_any fO a1 n1 c1 w)
  have HP := hide (fun w => within_any fP a2 n2 c2 w)
  rw [hI1] at HO
  rw [hI2] at HP
  have qP : (fP != I2) = true := by rw [bne_iff_ne, ← hI2]; exact fun e => hc ((inL_eq fP n2).1 e.symm)
  have eI : I1 = fO := hI1.symm.trans ((inL_eq fO n1).2 ho)
  rw [eI] at HO
  have qO : (fO != fO) = false := by simp
  clear hI1 hI2 hc ho eI
  obtain ⟨V1, V2, hV1, hV2, q1, q2, hlt, gb⟩ := rf_start w fO fP
  have hge : w.heap.size ≤ V1.heap.size := Nat.le_of_lt hlt
  obtain ⟨g9, hg9⟩ : ∃ g, w.heap.size = g := ⟨_, rfl⟩
  obtain ⟨gR, hgR⟩ : ∃ g, V1.heap.size = g := ⟨_, rfl⟩
  rw [hg9] at q1
  rw [hgR] at q2 hge
  have f0 : V2.cell? ⟨g9, 0, none⟩ = some (.int .i64 fO) := q1.cell 0 (by omega)
  have f1 : V2.cell? ⟨g9, 1, none⟩ = some (.int .i64 fP) := q1.cell 1 (by omega)
  have Q2 := hide q2
  have GE := hide hge
  clear q1 q2 hlt hge
  go_enter Try.func9, Try.ntmps9
  go_wp2_with fail
  go_quiet ((go_at_call 17; first | exact Calls.quiet_of_same (HO.out _) | exact Calls.quiet_of_same (HP.out _)))
  have G3 : Hid (Has (V2.drewN nq) gR 46 (ledv 0 0 (.slice none 0 0)) 3) := Q2.out
  have b3 : Below w.heap.size w (V2.drewN nq) := belowD gb nq
  generalize V2.drewN nq = w3 at G3 b3 ⊢
  go_wp2_with (first | refine wpW_build (by rfl) 46 #[] rfl [] rfl _ built_L0 ?_ | refine wpList_storeL rfl _ _ rfl rfl gR 0 0 (.slice none 0 0) rfl rfl rfl _ G3.out ?_)
  exact bodyPost_ret (resL2 _ gR _ _ (.int .i64 1) 10 11 (G3.out.row _ (ledv 0 0 (.slice none 0 0)) rfl) rfl rfl _ rfl) rfl ⟨rfl, by first | exact below_setRow b3 GE.out _ | (rw [← hg9]; exact below_setRow b3 GE.out _)⟩
structure FA where
  e : Int
  x : Int
  y : Int
  l : List Pen
def condA (bO bP : Int) (n1 n2 : Nat) (fO fP : Int) : Bool := decide (0 ≤ fO) && (decide (fO ≤ (n1 : Int)) && (decide (0 ≤ fP) && (decide (fP ≤ (n2 : Int)) && (isA bO && (isA bP && isA (bO + bP))))))
/-- What Fold answers. -/
def foldA (bO bP : Int) (mine others : List Upd) (fO fP : Int) : FA :=
  if condA bO bP mine.length others.length fO fP = false then ⟨1, 0, 0, []⟩
  else if (mine.take fO.toNat).all validB = false then ⟨120, 0, 0, []⟩
  else if (others.take fP.toNat).all validB = false then ⟨120, 0, 0, []⟩
  else if balX bO (mine.take fO.toNat) (others.take fP.toNat) < 0 ∨ balY bP (mine.take fO.toNat) (others.take fP.toNat) < 0 then ⟨130, 0, 0, []⟩
  else ⟨0, clampA (balX bO (mine.take fO.toNat) (others.take fP.toNat)), clampA (balY bP (mine.take fO.toNat) (others.take fP.toNat)), foldL (mine.take fO.toNat) (others.take fP.toNat)⟩
def FP (F : FA) (w : World) (e : Ending) (w' : World) : Prop := ∃ v, e = .returned (.tuple #[.agg (tabv (ledv F.x F.y v) 3), .int .i64 F.e]) ∧ OwnP w.heap.size w' v F.l ∧ Below w.heap.size w w'
theorem FP.err {k : Int} {w w' : World} {e : Ending} (h : e = .returned (.tuple #[.agg (tabv (ledv 0 0 (.slice none 0 0)) 3), .int .i64 k]) ∧ Below w.heap.size w w') : FP ⟨k, 0, 0, []⟩ w e w' := ⟨_, h.1, OwnP.nil _ _, h.2⟩
-- left out in this seat: rfold_all
theorem fold_all (bO bP : Int) (a1 a2 : Option Addr) (n1 c1 n2 c2 : Nat) (mine others : List Upd) (hn1 : mine.length = n1) (hn2 : others.length = n2) (z1 : n1 ≤ 1955000000000) (z2 : n2 ≤ 1955000000000) (k1 : n1 ≤ c1) (k2 : n2 ≤ c2) (fO fP : Int) (w : World) (hS1 : Upds w a1 mine) (hS2 : Upds w a2 others) : Calls Try.prog 9 #[.int .i64 bO, .int .i64 bP, .slice a1 n1 c1, .slice a2 n2 c2, .agg (tabv (cnv fO fP) 2)] w (FP (foldA bO bP mine others fO fP) w) := by
  subst hn1
  subst hn2
  unfold foldA
  by_cases hc : condA bO bP mine.length others.length fO fP = false
  · rw [if_pos hc]
    by_cases h1 : 0 ≤ fO ∧ fO ≤ (mine.length : Int)
    · by_cases h2 : 0 ≤ fP ∧ fP ≤ (others.length : Int)
      · obtain ⟨kO, rfl⟩ := Int.eq_ofNat_of_zero_le h1.1
        obtain ⟨kP, rfl⟩ := Int.eq_ofNat_of_zero_le h2.1
        have hp : plusA bO bP = (0, 80) := by
          unfold plusA
          rw [if_neg]
          rintro ⟨x5, x6, x7⟩
          unfold condA at hc
          rw [x5, x6, x7, decide_eq_true h1.1, decide_eq_true h1.2, decide_eq_true h2.1, decide_eq_true h2.2] at hc
          cases hc
        exact Calls.mono (fold_base bO bP a1 a2 _ c1 _ c2 mine others rfl rfl z1 z2 k1 k2 kO kP (by omega) (by omega) w hS1 hS2 hp) (fun e w' h => FP.err h)
      · exact Calls.mono (fold_out2 bO bP a1 a2 _ c1 _ c2 fO fP w h1 h2) (fun e w' h => FP.err h)
    · exact Calls.mono (fold_out1 bO bP a1 a2 _ c1 _ c2 fO fP w h1) (fun e w' h => FP.err h)
  rw [if_neg hc]
  unfold condA at hc
  simp only [Bool.and_eq_false_iff, decide_eq_false_iff_not, not_or, Decidable.not_not, Bool.not_eq_false] at hc
  obtain ⟨h1, h2, h3, h4, x5, x6, x7⟩ := hc
  obtain ⟨kO, rfl⟩ := Int.eq_ofNat_of_zero_le h1
  obtain ⟨kP, rfl⟩ := Int.eq_ofNat_of_zero_le h3
  rw [Int.toNat_natCast, Int.toNat_natCast]
  have lO : kO ≤ mine.length := by omega
  have lP : kP ≤ others.length := by omega
  have bA := (isA_iff bO).1 x5
  have bB := (isA_iff bP).1 x6
  have hpl : plusA bO bP = (bO + bP, 0) := by unfold plusA; rw [if_pos ⟨x5, x6, x7⟩]
  by_cases v1 : (mine.take kO).all validB = false
  · rw [if_pos v1]
    exact Calls.mono (fold_inv1 bO bP a1 a2 _ c1 _ c2 mine others rfl rfl z1 z2 k1 k2 kO kP lO lP w hS1 hS2 hpl v1) (fun e w' h => FP.err h)
  rw [if_neg v1]
  rw [Bool.not_eq_false] at v1
  by_cases v2 : (others.take kP).all validB = false
  · rw [if_pos v2]
    exact Calls.mono (fold_inv2 bO bP a1 a2 _ c1 _ c2 mine others rfl rfl z1 z2 k1 k2 kO kP lO lP w hS1 hS2 hpl v1 v2) (fun e w' h => FP.err h)
  rw [if_neg v2]
  rw [Bool.not_eq_false] at v2
  refine Calls.mono (fold_ok bO bP a1 a2 _ c1 _ c2 mine others rfl rfl z1 z2 k1 k2 kO kP lO lP w hS1 hS2 hpl (by show _ ∧ _; omega) v1 v2 (by show _ ≤ _; omega)) (fun e w' h => ?_)
  rcases h with ⟨v, hx, hy, he, ho, hb⟩ | ⟨hx, he, hb⟩
  · rw [if_neg (by omega)]
    exact ⟨v, he, ho, hb⟩
  · rw [if_pos hx]
    exact FP.err ⟨he, hb⟩
end Go.Proofs.Ytbeoojnofblnjaa
