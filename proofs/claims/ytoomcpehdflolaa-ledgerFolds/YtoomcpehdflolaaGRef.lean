/-
  The document's amounts, valid lists, and open adds by ID (printed by gen_ref.py).
-/
import Derived.Test.YtoomcpehdflolaaGTurned
namespace Go.Proofs.Ytoomcpehdflolaa
open Go.RowKit S Go.Shelf Go.Sort
set_option linter.unusedVariables false
set_option linter.unusedSimpArgs false
theorem ramount_any (a : Int) (w : World) : Calls Try.prog 46 #[.int .i64 a] w fun e w' => e = .returned (.bool (isA a)) ∧ w' = w := by
  by_cases h : 0 ≤ a
  · have e : isA a = decide (a ≤ 1152921504606846976) := by simp [isA, h]
    rw [e]
    go_enter Try.func46, Try.ntmps46
    go_wp2
    go_ret
    simp
  · have e : isA a = false := by simp [isA, h]
    rw [e]
    go_enter Try.func46, Try.ntmps46
    go_wp2
    go_ret
    simp
theorem all_next {l : List Upd} {j : Nat} {x : Upd} (h : l[j]? = some x) : (l.take (j + 1)).all validB = ((l.take j).all validB && validB x) := by rw [take_snoc h, List.all_append]; simp
theorem all_not {l : List Upd} {j : Nat} {x : Upd} (h : l[j]? = some x) (hv : validB x = false) : l.all validB = false := by
  rw [Bool.eq_false_iff]
  intro ha
  rw [List.all_eq_true.1 ha x (List.mem_of_getElem? h)] at hv
  cases hv
set_option maxRecDepth 100000 in
set_option maxHeartbeats 4000000 in
theorem rvalids_any (ad : Option Addr) (n cap : Nat) (l : List Upd) (hn : l.length = n) (hz : n ≤ 140737488351232) (w : World) (hS : Upds w ad l) : Calls Try.prog 47 #[.slice ad n cap] w fun e w' => e = .returned (.bool (l.all validB)) ∧ Below w.heap.size w w' := by
  obtain ⟨R, hR⟩ : ∃ R, l.all validB = R := ⟨_, rfl⟩
  rw [hR]
  have HR := hide hR
  have HN := hide hn
  have hni : (n : Int) ≤ 140737488351232 := by omega
  clear hR hn hz
  go_enter Try.func47, Try.ntmps47
  go_wp2
  go_loopw [3] (fun i wr => ∃ j : Nat, j ≤ n ∧ i = .int .i64 (j : Int) ∧ Hid ((l.take j).all validB = true) ∧ Below w.heap.size w wr) (fun i _ => n - (intOf i).toNat)
  case atStart => exact ⟨0, Nat.zero_le _, rfl, rfl, Below.refl _ _⟩
  case round =>
    obtain ⟨j, hj, rfl, HF, gb⟩ := hrel
    by_cases hlt : j < n
    · have hd : decide ((j : Int) < (n : Int)) = true := decide_eq_true (by omega)
      have hd2 : decide (j < n) = true := decide_eq_true hlt
      have hk0 : (0 : Int) ≤ (j : Int) := by omega
      have hk1 : (j : Int) < (n : Int) := by omega
      obtain ⟨s, hs⟩ : ∃ s, l[j]? = some s := ⟨_, List.getElem?_eq_getElem (by rw [HN.out]; exact hlt)⟩
      obtain ⟨b, o, rfl, hb1, hA⟩ := (hS.below gb).get j s hs
      have HS := hide hs
      have HA := hide hA
      clear hs hA
      cases hv : validB s with
      | false =>
        have hC : Calls Try.prog 42 #[.agg (tabv s.v 36)] wr fun e w' => e = .returned (.bool false) ∧ Below wr.heap.size wr w' := by have := rvalid_any s wr; rw [hv] at this; exact this
        have HC := hide hC
        clear hC
        have hfi : R = false := HR.out.symm.trans (all_not HS.out hv)
        subst hfi
        go_wp2_with (first | refine wpW_load_at 39 _ rfl (b) (o + j * 36) (by rfl) (by rfl) _ 36 _ (HA.out) Try.underlying39 rfl infoU ?_ | (go_at_call 42; go_must (refine HC.out.mono ?_); rintro e w8 ⟨rfl, hb8⟩))
        go_ret
        exact ⟨rfl, gb.trans (hb8.mono gb.size)⟩
      | true =>
        have hC : Calls Try.prog 42 #[.agg (tabv s.v 36)] wr fun e w' => e = .returned (.bool true) ∧ Below wr.heap.size wr w' := by have := rvalid_any s wr; rw [hv] at this; exact this
        have HC := hide hC
        clear hC
        go_wp2_with (first | refine wpW_load_at 39 _ rfl (b) (o + j * 36) (by rfl) (by rfl) _ 36 _ (HA.out) Try.underlying39 rfl infoU ?_ | (go_at_call 42; go_must (refine HC.out.mono ?_); rintro e w8 ⟨rfl, hb8⟩))
        go_roundw
        case rel => exact ⟨j + 1, by omega, by go_num, by show _ = _; rw [all_next HS.out, HF.out, hv]; rfl, gb.trans (hb8.mono gb.size)⟩
        case measure => simp [intOf]; omega
    · have hjn : j = n := by omega
      subst hjn
      have hd : decide ((j : Int) < (j : Int)) = false := decide_eq_false (by omega)
      have hd2 : decide (j < j) = false := decide_eq_false (by omega)
      have hfi : R = true := by
        have h := HF.out
        rw [← HN.out, List.take_length] at h
        exact HR.out.symm.trans h
      subst hfi
      go_wp2
      go_ret
      exact ⟨rfl, gb⟩
def twl (l : List Pen) (p : Pen) : Nat := (l.takeWhile (fun q => decide (q.id ≤ p.id))).length
/-- placed, as far as it has gone. -/
def plc (l : List Pen) (p : Pen) (j : Nat) : List Pen := if j ≤ twl l p then l.take j else l.take (twl l p) ++ p :: (l.drop (twl l p)).take (j - twl l p)
theorem twl_le (l : List Pen) (p : Pen) : twl l p ≤ l.length := by unfold twl; exact (List.takeWhile_sublist _).length_le
theorem twl_take (l : List Pen) (p : Pen) : l.take (twl l p) = l.takeWhile (fun q => decide (q.id ≤ p.id)) := by
  have e := List.takeWhile_append_dropWhile (p := fun q : Pen => decide (q.id ≤ p.id)) (l := l)
  unfold twl
  conv => lhs; rw [← e]
  rw [List.take_left' (by rw [e])]
theorem twl_drop (l : List Pen) (p : Pen) : l.drop (twl l p) = l.dropWhile (fun q => decide (q.id ≤ p.id)) := by
  have e := List.takeWhile_append_dropWhile (p := fun q : Pen => decide (q.id ≤ p.id)) (l := l)
  unfold twl
  conv => lhs; rw [← e]
  rw [List.drop_left' (by rw [e])]
theorem twl_lt {l : List Pen} {p s : Pen} {j : Nat} (hs : l[j]? = some s) (h : j < twl l p) : s.id ≤ p.id := by
  have h2 : (l.take (twl l p))[j]? = some s := by rw [List.getElem?_take_of_lt h, hs]
  rw [twl_take] at h2
  exact of_decide_eq_true (mem_tw (p := fun q : Pen => decide (q.id ≤ p.id)) (List.mem_of_getElem? h2))
theorem twl_at {l : List Pen} {p s : Pen} (hs : l[twl l p]? = some s) : p.id < s.id := by
  have h2 : (l.drop (twl l p))[0]? = some s := by rw [List.getElem?_drop, Nat.add_zero, hs]
  rw [twl_drop] at h2
  cases hd : l.dropWhile (fun q => decide (q.id ≤ p.id)) with
  | nil => rw [hd] at h2; simp at h2
  | cons z zs =>
    rw [hd] at h2
    simp only [List.getElem?_cons_zero, Option.some.injEq] at h2
    subst h2
    have := List.head_dropWhile_not (fun q : Pen => decide (q.id ≤ p.id)) (l := l) (by rw [hd]; simp)
    simp only [hd, List.head_cons] at this
    simpa using this
theorem tk_snoc {l : List Pen} {j : Nat} {x : Pen} (h : l[j]? = some x) : l.take (j + 1) = l.take j ++ [x] := by rw [List.take_add_one, h]; rfl
theorem plc_lt {l : List Pen} {p s : Pen} {j : Nat} (hs : l[j]? = some s) (h : j < twl l p) : plc l p (j + 1) = plc l p j ++ [s] := by
  unfold plc; rw [if_pos (by omega), if_pos (by omega), tk_snoc hs]
theorem plc_at {l : List Pen} {p s : Pen} (hs : l[twl l p]? = some s) : plc l p (twl l p + 1) = (plc l p (twl l p) ++ [p]) ++ [s] := by
  unfold plc
  rw [if_neg (by omega), if_pos (Nat.le_refl _)]
  have h2 : (l.drop (twl l p))[0]? = some s := by rw [List.getElem?_drop, Nat.add_zero, hs]
  rw [show twl l p + 1 - twl l p = 0 + 1 by omega, tk_snoc h2]
  simp
theorem plc_gt {l : List Pen} {p s : Pen} {j : Nat} (hs : l[j]? = some s) (h : twl l p < j) : plc l p (j + 1) = plc l p j ++ [s] := by
  unfold plc
  rw [if_neg (by omega), if_neg (by omega)]
  have h2 : (l.drop (twl l p))[j - twl l p]? = some s := by rw [List.getElem?_drop, show twl l p + (j - twl l p) = j by omega, hs]
  rw [show j + 1 - twl l p = j - twl l p + 1 by omega, tk_snoc h2]
  simp
theorem plc_end (l : List Pen) (p : Pen) : placeP l p = if l.length ≤ twl l p then plc l p l.length ++ [p] else plc l p l.length := by
  unfold placeP plc
  rw [← twl_take, ← twl_drop]
  by_cases h : l.length ≤ twl l p
  · rw [if_pos h, if_pos h, List.take_length, List.take_of_length_le h, List.drop_of_length_le h]
  · rw [if_neg h, if_neg h, List.take_of_length_le (l := l.drop _) (by rw [List.length_drop]; omega)]
theorem plc_len (l : List Pen) (p : Pen) (j : Nat) : (plc l p j).length ≤ l.length + 1 := by
  unfold plc
  split
  · rw [List.length_take]; omega
  · have := twl_le l p
    simp only [List.length_append, List.length_take, List.length_cons, List.length_drop]; omega
set_option maxRecDepth 100000 in
set_option maxHeartbeats 4000000 in
theorem rplaced_any (ad : Option Addr) (n cap : Nat) (l : List Pen) (p : Pen) (hn : l.length = n) (hz : n ≤ 3909999999990) (w : World) (hB : ∀ x, ad = some x → x.block < w.heap.size) (h1 : Pens w ad l) : Calls Try.prog 54 #[.slice ad n cap, .agg (tabv p.v 35)] w fun e w' => (∃ v, e = .returned v ∧ OwnP w.heap.size w' v (placeP l p)) ∧ Below w.heap.size w w' := by
  obtain ⟨V1, hV1⟩ : ∃ z, w.alloc (.cells (tabv p.v 35) 42) = z := ⟨_, rfl⟩
  have k3 : Has V1 w.heap.size 42 p.v 35 := by rw [← hV1]; exact Has.new w 42 p.v 35 _ rfl
  have gb1 : Below w.heap.size w V1 := by rw [← hV1]; exact (Below.refl _ _).alloc (Nat.le_refl _) _
  obtain ⟨g3, hg3⟩ : ∃ g, w.heap.size = g := ⟨_, rfl⟩
  rw [hg3] at k3
  have e1 : V1.cell? ⟨g3, 1, none⟩ = some (.int .i64 p.id) := k3.cell 1 (by omega)
  have K3 := hide k3
  have HN := hide hn
  have HL : Hid (l.length + 1 ≤ 3909999999995) := by show _ ≤ _; omega
  have HB := hide hB
  have GE := hide gb1.size
  have hni : (n : Int) ≤ 9223372036854775807 := by omega
  have h1 := h1.below gb1
  clear hn hz k3 hB
  go_enter Try.func54, Try.ntmps54
  go_wp2
  go_loopw [7, 6, 5] (fun i d v wr => ∃ j : Nat, j ≤ n ∧ i = .int .i64 (j : Int) ∧ d = .bool (decide (twl l p < j)) ∧ OwnP V1.heap.size wr v (plc l p j) ∧ Below V1.heap.size V1 wr) (fun i _ _ _ => n - (intOf i).toNat)
  case atStart => exact ⟨0, Nat.zero_le _, rfl, by rw [decide_eq_false (by omega)], by unfold plc; rw [if_pos (Nat.zero_le _)]; exact OwnP.nil _ _, Below.refl _ _⟩
  case round =>
    obtain ⟨j, hj, rfl, rfl, ho, gb⟩ := hrel
    have E1 := (gb.cell (p := ⟨g3, 1, none⟩) K3.out.lt).trans e1
    by_cases hlt : j < n
    · have hd : decide ((j : Int) < (n : Int)) = true := decide_eq_true (by omega)
      have hd2 : decide (j < n) = true := decide_eq_true hlt
      have hk0 : (0 : Int) ≤ (j : Int) := by omega
      have hk1 : (j : Int) < (n : Int) := by omega
      obtain ⟨s, hs⟩ : ∃ s, l[j]? = some s := ⟨_, List.getElem?_eq_getElem (by rw [HN.out]; exact hlt)⟩
      obtain ⟨b, o, rfl, hb1, hA⟩ := (h1.below gb).get j s hs
      have HS := hide hs
      have HA := hide hA
      have HBL : Hid (b < V1.heap.size) := Nat.lt_of_lt_of_le (HB.out _ rfl) GE.out
      have c1 : wr.cell? ⟨b, o + j * 35 + 1, none⟩ = some (.int .i64 s.id) := hA 1 (by omega)
      clear hs hA e1
      rcases Nat.lt_trichotomy j (twl l p) with hm | hm | hm
      · have hD : decide (twl l p < j) = false := decide_eq_false (by omega)
        have hC : decide (p.id < s.id) = false := decide_eq_false (by have := twl_lt HS.out hm; omega)
        rw [hD]
        go_wp2_with fail
        go_quiet (fail)
        have oq : OwnP V1.heap.size (wr.drewN nq) _ (plc l p j) := ho.below (belowD (Below.refl _ _) nq)
        have gbq : Below V1.heap.size V1 (wr.drewN nq) := belowD gb nq
        have AQ : Hid (At (wr.drewN nq) b (o + j * 35) s.v 35) := HA.out.below (belowD (Below.refl wr.heap.size wr) nq) hb1
        have KQ := hide (K3.out.below gbq K3.out.lt)
        obtain ⟨v8, w8a, w8, rS8, rA8, o8, gr8, b8⟩ := run_appPW (wr.drewN nq) V1.heap.size _ (plc l p j) s oq (by have := plc_len l p j; have := HL.out; omega) gbq.size
        have RS8 := hide rS8
        have RA8 := hide rA8
        clear rS8 rA8 gr8
        go_wp2_with (first | refine wpW_load_at 42 _ rfl b (o + j * 35) (by rfl) (by rfl) s.v 35 _ (AQ.out) Try.underlying42 rfl infoP ?_ | refine wpList_slice1 rfl 30 _ rfl (.agg (tabv s.v 35)) rfl RS8.out ?_ | refine wpList_app rfl _ _ _ rfl RA8.out ?_)
        go_roundw
        case rel => exact ⟨j + 1, by omega, by go_num, by rw [decide_eq_false (show ¬ (twl l p < j + 1) by omega)], by rw [plc_lt HS.out hm]; exact o8, gbq.trans b8⟩
        case measure => simp [intOf]; omega
      · have hD : decide (twl l p < j) = false := decide_eq_false (by omega)
        have hC : decide (p.id < s.id) = true := decide_eq_true (by have h := HS.out; rw [hm] at h; exact twl_at h)
        rw [hD]
        have HM := hide hm
        clear hm
        go_wp2_with fail
        go_quiet (fail)
        have oq : OwnP V1.heap.size (wr.drewN nq) _ (plc l p j) := ho.below (belowD (Below.refl _ _) nq)
        have gbq : Below V1.heap.size V1 (wr.drewN nq) := belowD gb nq
        have AQ : Hid (At (wr.drewN nq) b (o + j * 35) s.v 35) := HA.out.below (belowD (Below.refl wr.heap.size wr) nq) hb1
        have KQ := hide (K3.out.below gbq K3.out.lt)
        obtain ⟨v8, w8a, w8, rS8, rA8, o8, gr8, b8⟩ := run_appPW (wr.drewN nq) V1.heap.size _ (plc l p j) p oq (by have := plc_len l p j; have := HL.out; omega) gbq.size
        have gb8 := gbq.trans b8
        have hl8 : (plc l p j ++ [p]).length ≤ 3910000000000 := by have := plc_len l p j; have := HL.out; rw [List.length_append]; simp only [List.length_singleton]; omega
        obtain ⟨v9, w9a, w9, rS9, rA9, o9, gr9, b9⟩ := run_appPW w8 V1.heap.size v8 (plc l p j ++ [p]) s o8 hl8 gb8.size
        have A8 : Hid (At w8 b (o + j * 35) s.v 35) := AQ.out.below b8 (by have := HBL.out; omega)
        have RS8 := hide rS8
        have RA8 := hide rA8
        have RS9 := hide rS9
        have RA9 := hide rA9
        clear rS8 rA8 gr8 rS9 rA9 gr9
        go_wp2_with (first | refine wpW_load_at 42 _ rfl g3 0 (by rfl) (by rfl) p.v 35 _ (KQ.out.at_ 0 (by omega) (fun i hi => by rw [Nat.zero_add])) Try.underlying42 rfl infoP ?_ | refine wpList_slice1 rfl 30 _ rfl (.agg (tabv p.v 35)) rfl RS8.out ?_ | refine wpList_app rfl _ _ _ rfl RA8.out ?_ | refine wpW_load_at 42 _ rfl b (o + j * 35) (by rfl) (by rfl) s.v 35 _ (A8.out) Try.underlying42 rfl infoP ?_ | refine wpList_slice1 rfl 30 _ rfl (.agg (tabv s.v 35)) rfl RS9.out ?_ | refine wpList_app rfl _ _ _ rfl RA9.out ?_)
        go_roundw
        case rel => exact ⟨j + 1, by omega, by go_num, by rw [decide_eq_true (show twl l p < j + 1 by have := HM.out; omega)], by rw [show plc l p (j + 1) = (plc l p j ++ [p]) ++ [s] by have h := plc_at (l := l) (p := p) (s := s) (by rw [← HM.out]; exact HS.out); rw [← HM.out] at h; exact h]; exact o9, gb8.trans b9⟩
        case measure => simp [intOf]; omega
      · have hD : decide (twl l p < j) = true := decide_eq_true hm
        rw [hD]
        go_wp2_with fail
        go_quiet (fail)
        have oq : OwnP V1.heap.size (wr.drewN nq) _ (plc l p j) := ho.below (belowD (Below.refl _ _) nq)
        have gbq : Below V1.heap.size V1 (wr.drewN nq) := belowD gb nq
        have AQ : Hid (At (wr.drewN nq) b (o + j * 35) s.v 35) := HA.out.below (belowD (Below.refl wr.heap.size wr) nq) hb1
        have KQ := hide (K3.out.below gbq K3.out.lt)
        obtain ⟨v8, w8a, w8, rS8, rA8, o8, gr8, b8⟩ := run_appPW (wr.drewN nq) V1.heap.size _ (plc l p j) s oq (by have := plc_len l p j; have := HL.out; omega) gbq.size
        have RS8 := hide rS8
        have RA8 := hide rA8
        clear rS8 rA8 gr8
        go_wp2_with (first | refine wpW_load_at 42 _ rfl b (o + j * 35) (by rfl) (by rfl) s.v 35 _ (AQ.out) Try.underlying42 rfl infoP ?_ | refine wpList_slice1 rfl 30 _ rfl (.agg (tabv s.v 35)) rfl RS8.out ?_ | refine wpList_app rfl _ _ _ rfl RA8.out ?_)
        go_roundw
        case rel => exact ⟨j + 1, by omega, by go_num, by rw [decide_eq_true (show twl l p < j + 1 by omega)], by rw [plc_gt HS.out hm]; exact o8, gbq.trans b8⟩
        case measure => simp [intOf]; omega
    · have hjn : n = j := by omega
      subst hjn
      have hd : decide ((n : Int) < (n : Int)) = false := decide_eq_false (by omega)
      have hd2 : decide (n < n) = false := decide_eq_false (by omega)
      have PE := plc_end l p
      rw [HN.out] at PE
      by_cases hm : n ≤ twl l p
      · have hD : decide (twl l p < n) = false := decide_eq_false (by omega)
        rw [hD]
        rw [if_pos hm] at PE
        have KQ := hide (K3.out.below gb K3.out.lt)
        obtain ⟨v8, w8a, w8, rS8, rA8, o8, gr8, b8⟩ := run_appPW wr V1.heap.size _ (plc l p n) p ho (by have := plc_len l p n; have := HL.out; omega) gb.size
        have RS8 := hide rS8
        have RA8 := hide rA8
        clear rS8 rA8 gr8 ho
        go_wp2_with (first | refine wpW_load_at 42 _ rfl g3 0 (by rfl) (by rfl) p.v 35 _ (KQ.out.at_ 0 (by omega) (fun i hi => by rw [Nat.zero_add])) Try.underlying42 rfl infoP ?_ | refine wpList_slice1 rfl 30 _ rfl (.agg (tabv p.v 35)) rfl RS8.out ?_ | refine wpList_app rfl _ _ _ rfl RA8.out ?_)
        go_ret
        exact ⟨⟨_, rfl, by rw [PE]; exact o8.mono GE.out⟩, gb1.trans ((gb.trans b8).mono gb1.size)⟩
      · have hD : decide (twl l p < n) = true := decide_eq_true (by omega)
        rw [hD]
        rw [if_neg hm] at PE
        go_wp2
        go_ret
        exact ⟨⟨_, rfl, by rw [PE]; exact ho.mono GE.out⟩, gb1.trans (gb.mono gb1.size)⟩
end Go.Proofs.Ytoomcpehdflolaa
