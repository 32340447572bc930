import Derived.Test.YtmmcoedgoekhgaaGreatDoorGFold2
import Derived.Test.YtmmcoedgoekhgaaGreatDoorLast
/-
  Fold, the code's and the document's, as one answer (printed by gen_foldu.py).
-/
namespace Go.Proofs.YtmmcoedgoekhgaaGreatDoor
set_option maxRecDepth 20000
open Go.RowKit S Go.Shelf Go.Sort
set_option linter.unusedVariables false
set_option linter.unusedSimpArgs false
set_option maxRecDepth 100000 in
set_option maxHeartbeats 4000000 in
theorem fold_out1 (bO bP : Int) (a1 a2 : Option Addr) (n1 c1 n2 c2 : Nat) (fO fP : Int) (w : World) (hc : ¬ (0 ≤ fO ∧ fO ≤ (n1 : Int))) : Calls Tryz.prog 100 #[.int .i64 bO, .int .i64 bP, .slice a1 n1 c1, .slice a2 n2 c2, .agg (tabv (cnv fO fP) 2)] w fun e w' => e = .returned (.tuple #[.agg (tabv (ledv 0 0 (.slice none 0 0)) 3), .int .i64 1]) ∧ Below w.heap.size w w' := by
  obtain ⟨I1, hI1⟩ : ∃ k, ((inL fO n1 : Nat) : Int) = k := ⟨_, rfl⟩
  obtain ⟨I2, hI2⟩ : ∃ k, ((inL fP n2 : Nat) : Int) = k := ⟨_, rfl⟩
  have HO := hide (fun w => within_any fO a1 n1 c1 w)
  have HP := hide (fun w => within_any fP a2 n2 c2 w)
  rw [hI1] at HO
  rw [hI2] at HP
  have qO : (fO != I1) = true := by rw [bne_iff_ne, ← hI1]; exact fun e => hc ((inL_eq fO n1).1 e.symm)
  clear hI1 hI2 hc
  obtain ⟨V1, V2, hV1, hV2, q1, q2, hlt, gb⟩ := rf_start w fO fP
  have hge : w.heap.size ≤ V1.heap.size := Nat.le_of_lt hlt
  obtain ⟨g9, hg9⟩ : ∃ g, w.heap.size = g := ⟨_, rfl⟩
  obtain ⟨gR, hgR⟩ : ∃ g, V1.heap.size = g := ⟨_, rfl⟩
  rw [hg9] at q1
  rw [hgR] at q2 hge
  have f0 : V2.cell? ⟨g9, 0, none⟩ = some (.int .i64 fO) := q1.cell 0 (by omega)
  have f1 : V2.cell? ⟨g9, 1, none⟩ = some (.int .i64 fP) := q1.cell 1 (by omega)
  have Q2 := hide q2
  have GE := hide hge
  clear q1 q2 hlt hge
  go_enter Tryz.func100, Tryz.ntmps100
  go_wp2_with fail
  go_quiet ((go_at_call 94; exact Calls.quiet_of_same (HO.out _)))
  have G3 : Hid (Has (V2.drewN nq) gR 143 (ledv 0 0 (.slice none 0 0)) 3) := Q2.out
  have b3 : Below w.heap.size w (V2.drewN nq) := belowD gb nq
  generalize V2.drewN nq = w3 at G3 b3 ⊢
  go_wp2_with (first | refine wpW_build (by rfl) 143 #[] rfl [] rfl _ built_L0 ?_ | refine wpList_storeL rfl _ _ rfl rfl gR 0 0 (.slice none 0 0) rfl rfl rfl _ G3.out ?_)
  exact bodyPost_ret (resL2 _ gR _ _ (.int .i64 1) 10 11 (G3.out.row _ (ledv 0 0 (.slice none 0 0)) rfl) rfl rfl _ rfl) rfl ⟨rfl, by first | exact below_setRow b3 GE.out _ | (rw [← hg9]; exact below_setRow b3 GE.out _)⟩
set_option maxRecDepth 100000 in
set_option maxHeartbeats 4000000 in
theorem fold_out2 (bO bP : Int) (a1 a2 : Option Addr) (n1 c1 n2 c2 : Nat) (fO fP : Int) (w : World) (ho : 0 ≤ fO ∧ fO ≤ (n1 : Int)) (hc : ¬ (0 ≤ fP ∧ fP ≤ (n2 : Int))) : Calls Tryz.prog 100 #[.int .i64 bO, .int .i64 bP, .slice a1 n1 c1, .slice a2 n2 c2, .agg (tabv (cnv fO fP) 2)] w fun e w' => e = .returned (.tuple #[.agg (tabv (ledv 0 0 (.slice none 0 0)) 3), .int .i64 1]) ∧ Below w.heap.size w w' := by
  obtain ⟨I1, hI1⟩ : ∃ k, ((inL fO n1 : Nat) : Int) = k := ⟨_, rfl⟩
  obtain ⟨I2, hI2⟩ : ∃ k, ((inL fP n2 : Nat) : Int) = k := ⟨_, rfl⟩
  have HO := hide (fun w => within_any fO a1 n1 c1 w)
  have HP := hide (fun w => within_any fP a2 n2 c2 w)
  rw [hI1] at HO
  rw [hI2] at HP
  have qP : (fP != I2) = true := by rw [bne_iff_ne, ← hI2]; exact fun e => hc ((inL_eq fP n2).1 e.symm)
  have eI : I1 = fO := hI1.symm.trans ((inL_eq fO n1).2 ho)
  rw [eI] at HO
  have qO : (fO != fO) = false := by simp
  clear hI1 hI2 hc ho eI
  obtain ⟨V1, V2, hV1, hV2, q1, q2, hlt, gb⟩ := rf_start w fO fP
  have hge : w.heap.size ≤ V1.heap.size := Nat.le_of_lt hlt
  obtain ⟨g9, hg9⟩ : ∃ g, w.heap.size = g := ⟨_, rfl⟩
  obtain ⟨gR, hgR⟩ : ∃ g, V1.heap.size = g := ⟨_, rfl⟩
  rw [hg9] at q1
  rw [hgR] at q2 hge
  have f0 : V2.cell? ⟨g9, 0, none⟩ = some (.int .i64 fO) := q1.cell 0 (by omega)
  have f1 : V2.cell? ⟨g9, 1, none⟩ = some (.int .i64 fP) := q1.cell 1 (by omega)
  have Q2 := hide q2
  have GE := hide hge
  clear q1 q2 hlt hge
  go_enter Tryz.func100, Tryz.ntmps100
  go_wp2_with fail
  go_quiet ((go_at_call 94; first | exact Calls.quiet_of_same (HO.out _) | exact Calls.quiet_of_same (HP.out _)))
  have G3 : Hid (Has (V2.drewN nq) gR 143 (ledv 0 0 (.slice none 0 0)) 3) := Q2.out
  have b3 : Below w.heap.size w (V2.drewN nq) := belowD gb nq
  generalize V2.drewN nq = w3 at G3 b3 ⊢
  go_wp2_with (first | refine wpW_build (by rfl) 143 #[] rfl [] rfl _ built_L0 ?_ | refine wpList_storeL rfl _ _ rfl rfl gR 0 0 (.slice none 0 0) rfl rfl rfl _ G3.out ?_)
  exact bodyPost_ret (resL2 _ gR _ _ (.int .i64 1) 10 11 (G3.out.row _ (ledv 0 0 (.slice none 0 0)) rfl) rfl rfl _ rfl) rfl ⟨rfl, by first | exact below_setRow b3 GE.out _ | (rw [← hg9]; exact below_setRow b3 GE.out _)⟩
structure FA where
  e : Int
  x : Int
  y : Int
  l : List Pen
def condA (bO bP : Int) (n1 n2 : Nat) (fO fP : Int) : Bool := decide (0 ≤ fO) && (decide (fO ≤ (n1 : Int)) && (decide (0 ≤ fP) && (decide (fP ≤ (n2 : Int)) && (isA bO && (isA bP && isA (bO + bP))))))
/-- What Fold answers. -/
def foldA (bO bP : Int) (mine others : List Upd) (fO fP : Int) : FA :=
  if condA bO bP mine.length others.length fO fP = false then ⟨1, 0, 0, []⟩
  else if (mine.take fO.toNat).all validB = false then ⟨120, 0, 0, []⟩
  else if (others.take fP.toNat).all validB = false then ⟨120, 0, 0, []⟩
  else if balX bO (mine.take fO.toNat) (others.take fP.toNat) < 0 ∨ balY bP (mine.take fO.toNat) (others.take fP.toNat) < 0 then ⟨130, 0, 0, []⟩
  else ⟨0, clampA (balX bO (mine.take fO.toNat) (others.take fP.toNat)), clampA (balY bP (mine.take fO.toNat) (others.take fP.toNat)), foldL (mine.take fO.toNat) (others.take fP.toNat)⟩
def FP (F : FA) (w : World) (e : Ending) (w' : World) : Prop := ∃ v, e = .returned (.tuple #[.agg (tabv (ledv F.x F.y v) 3), .int .i64 F.e]) ∧ OwnP w.heap.size w' v F.l ∧ Below w.heap.size w w'
theorem FP.err {k : Int} {w w' : World} {e : Ending} (h : e = .returned (.tuple #[.agg (tabv (ledv 0 0 (.slice none 0 0)) 3), .int .i64 k]) ∧ Below w.heap.size w w') : FP ⟨k, 0, 0, []⟩ w e w' := ⟨_, h.1, OwnP.nil _ _, h.2⟩
theorem fold_all (bO bP : Int) (a1 a2 : Option Addr) (n1 c1 n2 c2 : Nat) (mine others : List Upd) (hn1 : mine.length = n1) (hn2 : others.length = n2) (z1 : n1 ≤ 1955000000000) (z2 : n2 ≤ 1955000000000) (k1 : n1 ≤ c1) (k2 : n2 ≤ c2) (fO fP : Int) (w : World) (hS1 : Upds w a1 mine) (hS2 : Upds w a2 others) : Calls Tryz.prog 100 #[.int .i64 bO, .int .i64 bP, .slice a1 n1 c1, .slice a2 n2 c2, .agg (tabv (cnv fO fP) 2)] w (FP (foldA bO bP mine others fO fP) w) := by
  subst hn1
  subst hn2
  unfold foldA
  by_cases hc : condA bO bP mine.length others.length fO fP = false
  · rw [if_pos hc]
    by_cases h1 : 0 ≤ fO ∧ fO ≤ (mine.length : Int)
    · by_cases h2 : 0 ≤ fP ∧ fP ≤ (others.length : Int)
      · obtain ⟨kO, rfl⟩ := Int.eq_ofNat_of_zero_le h1.1
        obtain ⟨kP, rfl⟩ := Int.eq_ofNat_of_zero_le h2.1
        have hp : plusA bO bP = (0, 80) := by
          unfold plusA
          rw [if_neg]
          rintro ⟨x5, x6, x7⟩
          unfold condA at hc
          rw [x5, x6, x7, decide_eq_true h1.1, decide_eq_true h1.2, decide_eq_true h2.1, decide_eq_true h2.2] at hc
          cases hc
        exact Calls.mono (fold_base bO bP a1 a2 _ c1 _ c2 mine others rfl rfl z1 z2 k1 k2 kO kP (by omega) (by omega) w hS1 hS2 hp) (fun e w' h => FP.err h)
      · exact Calls.mono (fold_out2 bO bP a1 a2 _ c1 _ c2 fO fP w h1 h2) (fun e w' h => FP.err h)
    · exact Calls.mono (fold_out1 bO bP a1 a2 _ c1 _ c2 fO fP w h1) (fun e w' h => FP.err h)
  rw [if_neg hc]
  unfold condA at hc
  simp only [Bool.and_eq_false_iff, decide_eq_false_iff_not, not_or, Decidable.not_not, Bool.not_eq_false] at hc
  obtain ⟨h1, h2, h3, h4, x5, x6, x7⟩ := hc
  obtain ⟨kO, rfl⟩ := Int.eq_ofNat_of_zero_le h1
  obtain ⟨kP, rfl⟩ := Int.eq_ofNat_of_zero_le h3
  rw [Int.toNat_natCast, Int.toNat_natCast]
  have lO : kO ≤ mine.length := by omega
  have lP : kP ≤ others.length := by omega
  have bA := (isA_iff bO).1 x5
  have bB := (isA_iff bP).1 x6
  have hpl : plusA bO bP = (bO + bP, 0) := by unfold plusA; rw [if_pos ⟨x5, x6, x7⟩]
  by_cases v1 : (mine.take kO).all validB = false
  · rw [if_pos v1]
    exact Calls.mono (fold_inv1 bO bP a1 a2 _ c1 _ c2 mine others rfl rfl z1 z2 k1 k2 kO kP lO lP w hS1 hS2 hpl v1) (fun e w' h => FP.err h)
  rw [if_neg v1]
  rw [Bool.not_eq_false] at v1
  by_cases v2 : (others.take kP).all validB = false
  · rw [if_pos v2]
    exact Calls.mono (fold_inv2 bO bP a1 a2 _ c1 _ c2 mine others rfl rfl z1 z2 k1 k2 kO kP lO lP w hS1 hS2 hpl v1 v2) (fun e w' h => FP.err h)
  rw [if_neg v2]
  rw [Bool.not_eq_false] at v2
  refine Calls.mono (fold_ok bO bP a1 a2 _ c1 _ c2 mine others rfl rfl z1 z2 k1 k2 kO kP lO lP w hS1 hS2 hpl (by show _ ∧ _; omega) v1 v2 (by show _ ≤ _; omega)) (fun e w' h => ?_)
  rcases h with ⟨v, hx, hy, he, ho, hb⟩ | ⟨hx, he, hb⟩
  · rw [if_neg (by omega)]
    exact ⟨v, he, ho, hb⟩
  · rw [if_pos hx]
    exact FP.err ⟨he, hb⟩
end Go.Proofs.YtmmcoedgoekhgaaGreatDoor
/-
  As Last, where the last operation waits for another by way of some between.
-/
namespace Go.Proofs.YtmmcoedgoekhgaaGreatDoor
set_option maxRecDepth 20000
section
variable {P : Program} {ops : Array Oper} {md : Region.Mode} {Q : Exit → Act → World → Prop} {S : World → Prop} {st : Nat}
def closedB (md : Region.Mode) (ops : Array Oper) (listed : Array Bool) : Bool := (List.range ops.size).all fun k => !(listed.getD k false) || ((ops[k]?).map (·.after.all fun e => !Region.binds md e || listed.getD e.on false)).getD true
def closedP (md : Region.Mode) (ops : Array Oper) (listed : Array Bool) : Prop := ∀ k o, ops[k]? = some o → listed.getD k false = true → ∀ e ∈ o.after, Region.binds md e = true → listed.getD e.on false = true
theorem closed_of {listed : Array Bool} (h : closedB md ops listed = true) : closedP md ops listed := fun k o ho hk e he hb => by
  have hlt : k < ops.size := (Array.getElem?_eq_some_iff.1 ho).1
  have h1 := List.all_eq_true.1 h k (List.mem_range.2 hlt)
  rw [hk, ho] at h1
  simp only [Bool.not_true, Bool.false_or, Option.map_some, Option.getD_some] at h1
  have h2 := Array.all_eq_true_iff_forall_mem.1 h1 e he
  rw [hb] at h2
  simpa using h2
theorem getD_up {listed : Array Bool} {j k : Nat} (h : listed.getD k false = true) : (listed.setIfInBounds j true).getD k false = true := by
  by_cases hjk : j = k
  · subst hjk
    have hlt : j < listed.size := by
      rcases Nat.lt_or_ge j listed.size with h' | h'
      · exact h'
      · simp [Array.getElem?_eq_none h'] at h
    simp [hlt]
  · rw [getD_set_ne false hjk]; exact h
theorem closed_add {listed : Array Bool} {j : Nat} (h : closedP md ops listed) (hj : j ∈ Region.ready md ops listed) : closedP md ops (listed.setIfInBounds j true) := fun k o ho hk e he hb => by
  by_cases hjk : j = k
  · subst hjk
    obtain ⟨_, oj, hoj, hall⟩ := mem_ready.1 hj
    rw [ho] at hoj
    obtain rfl := Option.some.inj hoj
    exact getD_up (hall e he hb)
  · rw [getD_set_ne false hjk] at hk
    exact getD_up (h k o ho hk e he hb)
def pathB (md : Region.Mode) (ops : Array Oper) : Nat → List Nat → Nat → Bool
  | k, [], i => waitsB md ops k i
  | k, c :: r, i => waitsB md ops k c && pathB md ops c r i
theorem waits_edge {k i : Nat} (h : waitsB md ops k i = true) : ∃ o, ops[k]? = some o ∧ ∃ e ∈ o.after, Region.binds md e = true ∧ e.on = i := by
  unfold waitsB at h
  cases ho : ops[k]? with
  | none => rw [ho] at h; cases h
  | some o =>
    rw [ho] at h
    obtain ⟨e, he, hb⟩ := Array.any_eq_true'.1 h
    simp only [Bool.and_eq_true, beq_iff_eq] at hb
    exact ⟨o, rfl, e, he, hb.1, hb.2⟩
theorem path_listed {listed : Array Bool} (hc : closedP md ops listed) {i : Nat} : ∀ (r : List Nat) (k : Nat), pathB md ops k r i = true → listed.getD k false = true → listed.getD i false = true
  | [], k, h, hk => by
    obtain ⟨o, ho, e, he, hb, rfl⟩ := waits_edge h
    exact hc k o ho hk e he hb
  | c :: r, k, h, hk => by
    simp only [pathB, Bool.and_eq_true] at h
    obtain ⟨o, ho, e, he, hb, rfl⟩ := waits_edge h.1
    exact path_listed hc r _ h.2 (hc k o ho hk e he hb)
theorem path_ready {listed : Array Bool} (hc : closedP md ops listed) {i : Nat} (r : List Nat) (h : pathB md ops st r i = true) (hs : st ∈ Region.ready md ops listed) (hi : i ∈ Region.ready md ops listed) : False := by
  have h0 := (mem_ready.1 hi).1
  obtain ⟨_, os, hos, hall⟩ := mem_ready.1 hs
  have h1 : listed.getD i false = true := by
    cases r with
    | nil =>
      obtain ⟨o, ho, e, he, hb, rfl⟩ := waits_edge h
      rw [hos] at ho
      obtain rfl := Option.some.inj ho
      exact hall e he hb
    | cons c r =>
      simp only [pathB, Bool.and_eq_true] at h
      obtain ⟨o, ho, e, he, hb, rfl⟩ := waits_edge h.1
      rw [hos] at ho
      obtain rfl := Option.some.inj ho
      exact path_listed hc r _ h.2 (hall e he hb)
  rcases Nat.lt_or_ge i listed.size with h' | h'
  · simp [h'] at h0 h1; rw [h0] at h1; cases h1
  · simp [Array.getElem?_eq_none h'] at h1
theorem first_TP {i : Nat} {oi : Oper} {v : Value} (hi : ops[i]? = some oi) (hsel : ∀ (j : Nat) (o : Oper) cs b, ops[j]? = some o → o.op ≠ .select cs b)
    (hQ : ∀ c a w, Q (.panic c) (a.put oi.dst v) w → Q (.panic c) a w) (r : List Nat) (hw : pathB md ops st r i = true) (hist : i ≠ st) :
    ∀ (fuel : Nat) (listed : Array Bool) (a : Act) (w : World), closedP md ops listed →
      (∀ j oj, ops[j]? = some oj → j ≠ i → listed.getD j true = false → (∀ e ∈ oj.after, Region.binds md e = true → e.on ≠ i) → oi.apart ops oj = true) →
      i ∈ Region.ready md ops listed → YieldsIf P ops S oi v a → S w →
      wpAnyT P md ops Q S st fuel (listed.setIfInBounds i true) (a.put oi.dst v) w → wpAnyT P md ops Q S st (fuel + 1) listed a w := by
  intro fuel
  induction fuel with
  | zero =>
    intro listed a w hcl _ hr hy hS H
    refine ⟨fun h => (by rw [h] at hr; cases hr), fun j hj => ?_⟩
    by_cases hji : j = i
    · subst hji; exact hy.wpOp hi hS ⟨fun _ => hS, H⟩
    · have := ready_mono hj hji
      rw [H.1] at this
      cases this
  | succ fuel ih =>
    intro listed a w hcl hfree hr hy hS H
    refine ⟨fun h => (by rw [h] at hr; cases hr), fun j hj => ?_⟩
    by_cases hji : j = i
    · subst hji; exact hy.wpOp hi hS ⟨fun _ => hS, H⟩
    · have h1 := H.2 j (ready_mono hj hji)
      obtain ⟨hjun, oj, hoj, hall⟩ := mem_ready.1 hj
      have hnot : ∀ e ∈ oj.after, Region.binds md e = true → e.on ≠ i := fun e he hb heq => by
        have h1 := hall e he hb
        have h0 := (mem_ready.1 hr).1
        rw [heq] at h1
        rcases Nat.lt_or_ge i listed.size with h' | h'
        · simp [h'] at h0 h1; rw [h0] at h1; cases h1
        · simp [Array.getElem?_eq_none h'] at h1
      have hjst : j ≠ st := fun e => by
        subst e
        exact path_ready hcl r hw hj hr
      have h2 := wpOp_putIf hoj (hfree j oj hoj hji hjun hnot) (fun cs b => hsel i oi cs b hi) (fun cs b => hsel j oj cs b hoj) hQ hy h1
      have hfree' : ∀ k ok, ops[k]? = some ok → k ≠ i → (listed.setIfInBounds j true).getD k true = false →
          (∀ e ∈ ok.after, Region.binds md e = true → e.on ≠ i) → oi.apart ops ok = true := fun k ok hk hki hun hno => by
        refine hfree k ok hk hki ?_ hno
        by_cases hjk : j = k
        · subst hjk; exact hjun
        · rw [getD_set_ne true hjk] at hun; exact hun
      refine wpOp_mono (fun a' w' h3 => ⟨h3.2.1, ih (listed.setIfInBounds j true) a' w' (closed_add hcl hj) hfree' (ready_mono hr (Ne.symm hji)) h3.1 (h3.2.1 hjst) ?_⟩) h2
      rw [Array.setIfInBounds_comm _ _ hji]
      exact h3.2.2
/-- takeT by a path: st waits for the path's first, .., its last waits for i. -/
theorem takeP (r : List Nat) (i : Nat) (d : Option Tmp) (v : Value) {oi : Oper} {fuel : Nat} {listed : Array Bool} {a : Act} {w : World} (hi : ops[i]? = some oi) (hd : oi.dst = d)
    (hs : Region.noSelect ops = true) (hf : Region.free md ops listed i = true) (hr : (Region.ready md ops listed).contains i = true) (hwt : pathB md ops st r i = true) (hcl : closedB md ops listed = true) (hst : i ≠ st)
    (hQ : ∀ c a w, Q (.panic c) (a.put oi.dst v) w → Q (.panic c) a w) (hw : Region.wanted oi (yielded ops a.tmps) = true) (hy : ∀ w, S w → (execOp a.eval oi).run P w = .ok (.value v) w) (hS : S w)
    (h : wpAnyT P md ops Q S st fuel (listed.setIfInBounds i true) (a.put d v) w) : wpAnyT P md ops Q S st (fuel + 1) listed a w :=
  first_TP hi (Region.noSelect_spec hs) hQ r hwt hst fuel listed a w (closed_of hcl) (Region.free_spec hi hf) (by simpa using hr) (.inl ⟨hw, hy⟩) hS (by rw [hd]; exact h)
end
end Go.Proofs.YtmmcoedgoekhgaaGreatDoor
