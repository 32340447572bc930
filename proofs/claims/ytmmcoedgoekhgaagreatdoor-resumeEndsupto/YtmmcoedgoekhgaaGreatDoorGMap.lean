/-
  Ledger: adds, valid lists, the map of removals (printed by gen_map.py).
-/
import Derived.Test.YtmmcoedgoekhgaaGreatDoorLast
import Derived.Test.YtmmcoedgoekhgaaGreatDoorGNum
namespace Go.Proofs.YtmmcoedgoekhgaaGreatDoor
set_option maxRecDepth 20000
open Go.RowKit S
set_option linter.unusedVariables false
set_option linter.unusedSimpArgs false
-- stands in another text: newU
def addB (u : Upd) : Bool := (u.kind == 1) && validB u
def remP (id : Int) (u : Upd) : Bool := validB u && ((u.kind != 1) && (u.id == id))
def remK (l : List Upd) (id : Int) : Int := ((l.find? (remP id)).map (·.kind)).getD 0
theorem valid_idL {u : Upd} (h : validB u = true) : 0 ≤ u.id ∧ u.id < 2048 := by
  unfold validB at h
  simp only [Bool.and_eq_true, Bool.not_eq_true', Bool.or_eq_false_iff, decide_eq_false_iff_not] at h
  omega
theorem valid_kind {u : Upd} (h : validB u = true) : u.kind = 1 ∨ u.kind = 2 ∨ u.kind = 3 := by
  unfold validB at h
  by_cases h1 : (u.kind == 1) = true
  · exact .inl (eq_of_beq h1)
  · by_cases h2 : (u.kind == 2) = true
    · exact .inr (.inl (eq_of_beq h2))
    · by_cases h3 : (u.kind == 3) = true
      · exact .inr (.inr (eq_of_beq h3))
      · rw [if_neg h1, if_neg h2, if_neg h3] at h; simp at h
theorem add_amt {u : Upd} (h : addB u = true) : 1 ≤ u.amt ∧ u.amt ≤ 1152921504606846976 := by
  unfold addB at h
  rw [Bool.and_eq_true] at h
  obtain ⟨h1, h2⟩ := h
  unfold validB at h2
  rw [if_pos h1] at h2
  simp only [Bool.and_eq_true, decide_eq_true_eq] at h2
  exact h2.2.1
theorem add_id {u : Upd} (h : addB u = true) : 0 ≤ u.id ∧ u.id < 2048 := valid_idL (by unfold addB at h; rw [Bool.and_eq_true] at h; exact h.2)
theorem remK_of {l : List Upd} {id : Int} : remK l id = 0 ∨ remK l id = 2 ∨ remK l id = 3 := by
  unfold remK
  cases h : l.find? (remP id) with
  | none => exact .inl rfl
  | some u =>
    have := List.find?_some h
    unfold remP at this
    simp only [Bool.and_eq_true, bne_iff_ne] at this
    rcases valid_kind this.1 with e | e | e
    · exact absurd e this.2.1
    · exact .inr (.inl e)
    · exact .inr (.inr e)
theorem remK_snoc (l : List Upd) (x : Upd) (id : Int) : remK (l ++ [x]) id = if remK l id = 0 then (if remP id x = true then x.kind else 0) else remK l id := by
  have H := @remK_of l id
  unfold remK at *
  rw [List.find?_append]
  cases h : l.find? (remP id) with
  | none =>
    simp only [h, Option.none_or, Option.map_none, Option.getD_none, if_true]
    cases hx : remP id x with
    | true => simp [hx]
    | false => simp [hx]
  | some u =>
    rw [h] at H
    have := List.find?_some h
    unfold remP at this
    simp only [Bool.and_eq_true, bne_iff_ne] at this
    simp only [Option.some_or, Option.map_some, Option.getD_some] at *
    rw [if_neg]
    rcases valid_kind this.1 with e | e | e <;> omega
theorem rem_step0 {L : List Upd} {s : Upd} (h : validB s = false ∨ (s.kind != 1) = false ∨ remK L s.id ≠ 0) (k : Int) : remK L k = remK (L ++ [s]) k := by
  rw [remK_snoc]
  by_cases e : remK L k = 0
  · rw [if_pos e, e]
    have : remP k s = false := by
      unfold remP
      rcases h with h | h | h
      · rw [h]; rfl
      · rw [h]; simp
      · have : (s.id == k) = false := by rw [beq_eq_false_iff_ne]; rintro rfl; exact h e
        rw [this]; simp
    rw [this]; simp
  · rw [if_neg e]
theorem rem_step1 {L : List Upd} {s : Upd} (h1 : validB s = true) (h2 : (s.kind != 1) = true) (h3 : remK L s.id = 0) (k : Int) : (if k = s.id then s.kind else remK L k) = remK (L ++ [s]) k := by
  rw [remK_snoc]
  by_cases e : k = s.id
  · subst e
    rw [if_pos rfl, if_pos h3, if_pos (by unfold remP; rw [h1, h2]; simp)]
  · rw [if_neg e]
    have : remP k s = false := by
      unfold remP
      have : (s.id == k) = false := by rw [beq_eq_false_iff_ne]; exact fun e' => e e'.symm
      rw [this]; simp
    rw [this]
    split <;> simp [*]
/-- A map of numbers of the call's own: what it says at 0 to 2047. -/
def RMap (w : World) (b n : Nat) (f : Int → Int) : Prop := ∃ D : DataW Unit, w.ownsMap Tryz.prog 2 (plainElem Tryz.prog 3) b n D ∧ Maps.IsMap D ∧ ∀ k : Int, 0 ≤ k → k < 2048 → D.atKey (.int .i64 k) (.lit (.int .i64 0)) = .lit (.int .i64 (f k))
theorem law2 : Maps.Keyed Tryz.prog 2 := Maps.int_keyed Tryz.underlying2
theorem zeroI3 (w : World) : (zeroValue 3).run Tryz.prog w = .ok (.int .i64 0) w := by
  have h : (Tryz.prog.info? 3).bind (·.zero) = some (.int .i64 0) := by kernel_rfl
  cases hq : Tryz.prog.info? 3 with
  | none => simp [hq] at h
  | some i => simp [hq] at h; simp [zeroValue, typeInfo, hq, h]
theorem wf_id {k : Int} (h0 : 0 ≤ k) (h1 : k < 2048) : (Lit.int .i64 k).wf = true := by
  have : -9223372036854775808 ≤ k ∧ k ≤ 9223372036854775807 := by omega
  simpa [Lit.wf, IntKind.min, IntKind.max, IntKind.signed, IntKind.bits] using this
theorem RMap.lt {w : World} {b n : Nat} {f : Int → Int} (h : RMap w b n f) : b < w.heap.size := by obtain ⟨D, h1, _⟩ := h; exact h1.lt
theorem RMap.same {w w' : World} {b n : Nat} {f : Int → Int} (h : RMap w b n f) (e : w'.heap[b]? = w.heap[b]?) : RMap w' b n f := by
  obtain ⟨D, ⟨es, clock, h1, h2⟩, h3⟩ := h
  exact ⟨D, ⟨es, clock, by rw [e]; exact h1, h2⟩, h3⟩
theorem RMap.look {w : World} {b n : Nat} {f : Int → Int} (h : RMap w b n f) {k : Int} (h0 : 0 ≤ k) (h1 : k < 2048) : (Instr.lookup 133 (.map (some b)) (.int .i64 k) false).run Tryz.prog w = .ok (.int .i64 (f k)) w := by
  obtain ⟨D, h2, _, h3⟩ := h
  obtain ⟨c, hr, ha, _⟩ := h2.lookup_int law2 Tryz.underlying133 Tryz.underlying3 (zeroI3 w) (Maps.keyOf_int_mk Tryz.underlying2 (wf_id h0 h1))
  rw [h3 k h0 h1] at ha
  have e : f k = c := by injection ha with ha; injection ha
  rw [e]; exact hr
theorem RMap.put {w : World} {b n : Nat} {f : Int → Int} (h : RMap w b n f) (hn : n < maxLen) {k v : Int} (h0 : 0 ≤ k) (h1 : k < 2048) (hv0 : 0 ≤ v) (hv1 : v < 2048) : ∃ w', (Instr.mapUpdate 133 (.map (some b)) (.int .i64 k) (.int .i64 v)).run Tryz.prog w = .ok () w' ∧ RMap w' b (n + 1) (fun x => if x = k then v else f x) ∧ w.grownBy w' (some b) := by
  obtain ⟨D, h2, hm, h3⟩ := h
  obtain ⟨w', e1, e2, e3⟩ := h2.update law2 Tryz.underlying133 hn (Maps.keyOf_int_mk Tryz.underlying2 (wf_id h0 h1)) (plainElem_int Tryz.underlying3 (wf_id hv0 hv1))
  refine ⟨w', e1, ⟨_, e2, hm.put _ _, fun x hx0 hx1 => ?_⟩, e3⟩
  show _ = DataW.lit (Lit.int .i64 (if x = k then v else f x))
  by_cases hx : x = k
  · subst hx
    rw [if_pos rfl, Maps.atKey_put_same hm (by trivial) _ _]
  · rw [if_neg hx, Maps.atKey_put_other (fun e => hx (by injection e)) _ _]
    exact h3 x hx0 hx1
theorem RMap.new (w : World) : RMap (w.alloc (.map #[] 0)) w.heap.size 0 (fun _ => 0) := ⟨_, World.ownsMap_made w Tryz.prog 2 (plainElem Tryz.prog 3), Maps.isMap_empty, fun k _ _ => rfl⟩
theorem RMap.congr {w : World} {b n : Nat} {f f' : Int → Int} (h : RMap w b n f) (e : ∀ k, 0 ≤ k → k < 2048 → f k = f' k) : RMap w b n f' := by
  obtain ⟨D, h1, h2, h3⟩ := h
  exact ⟨D, h1, h2, fun k h0 h4 => by rw [h3 k h0 h4, e k h0 h4]⟩
set_option maxRecDepth 100000 in
set_option maxHeartbeats 4000000 in
theorem isAdd_any (u : Upd) (w : World) : Calls Tryz.prog 96 #[.agg (tabv u.v 36)] w fun e w' => e = .returned (.bool (addB u)) ∧ Below w.heap.size w w' := by
  obtain ⟨w3, hW⟩ : ∃ w3, w.alloc (.cells (tabv u.v 36) 34) = w3 := ⟨_, rfl⟩
  have g0 : Has w3 w.heap.size 34 u.v 36 := by rw [← hW]; exact Has.new w 34 u.v 36 _ rfl
  have gb : Below w.heap.size w w3 := by rw [← hW]; exact (Below.refl w.heap.size w).alloc (Nat.le_refl _) _
  have c0 : w3.cell? ⟨w.heap.size, 0, none⟩ = some (.int .i64 u.kind) := g0.cell 0 (by omega)
  have G0 := hide g0
  clear g0
  cases k1 : (u.kind == 1) with
  | false =>
    rw [show addB u = false by unfold addB; simp [k1]]
    go_enter Tryz.func96, Tryz.ntmps96
    go_wp2
    go_ret
    exact ⟨rfl, gb⟩
  | true =>
    rw [show addB u = validB u by unfold addB; simp [k1]]
    go_enter Tryz.func96, Tryz.ntmps96
    go_wp2_with (first | refine wpW_load_at 34 _ rfl (w.heap.size) (0) (by rfl) (by rfl) _ 36 _ (G0.out.at_ 0 (by omega) (fun i hi => by rw [Nat.zero_add])) Tryz.underlying34 rfl infoU ?_ | (go_at_call 104; go_must (refine (valid_any u w3).mono ?_); rintro e w4 ⟨rfl, hb4⟩))
    go_ret
    exact ⟨rfl, gb.trans (hb4.mono gb.size)⟩
set_option maxRecDepth 100000 in
set_option maxHeartbeats 4000000 in
theorem allValid_any (ad : Option Addr) (n cap : Nat) (l : List Upd) (hn : l.length = n) (hz : n ≤ 140737488351232) (w : World) (hS : Upds w ad l) : Calls Tryz.prog 143 #[.slice ad n cap] w fun e w' => e = .returned (.bool (l.all validB)) ∧ Below w.heap.size w w' := by
  obtain ⟨R, hR⟩ : ∃ R, l.all validB = R := ⟨_, rfl⟩
  rw [hR]
  have HR := hide hR
  have HN := hide hn
  have hni : (n : Int) ≤ 140737488351232 := by omega
  clear hR hn hz
  go_enter Tryz.func143, Tryz.ntmps143
  go_wp2
  go_loopw [7] (fun i wr => ∃ j : Nat, j ≤ n ∧ i = .int .i64 (j : Int) ∧ Hid ((l.take j).all validB = true) ∧ Below w.heap.size w wr) (fun i _ => n - (intOf i).toNat)
  case atStart => exact ⟨0, Nat.zero_le _, rfl, rfl, Below.refl _ _⟩
  case round =>
    obtain ⟨j, hj, rfl, HF, gb⟩ := hrel
    by_cases hlt : j < n
    · have hd : decide ((j : Int) < (n : Int)) = true := decide_eq_true (by omega)
      have hd2 : decide (j < n) = true := decide_eq_true hlt
      have hk0 : (0 : Int) ≤ (j : Int) := by omega
      have hk1 : (j : Int) < (n : Int) := by omega
      obtain ⟨s, hs⟩ : ∃ s, l[j]? = some s := ⟨_, List.getElem?_eq_getElem (by rw [HN.out]; exact hlt)⟩
      obtain ⟨b, o, rfl, hb1, hA⟩ := (hS.below gb).get j s hs
      have HS := hide hs
      have HA := hide hA
      obtain ⟨w6, w7, hW6, q1, hW7, r1, rb⟩ := newU wr s
      have Q1 := hide q1
      have R7 := hide r1
      have c0 : w7.cell? ⟨wr.heap.size, 0, none⟩ = some (.int .i64 s.kind) := r1.cell 0 (by omega)
      have c1 : w7.cell? ⟨wr.heap.size, 1, none⟩ = some (.int .i64 s.id) := r1.cell 1 (by omega)
      have c2 : w7.cell? ⟨wr.heap.size, 2, none⟩ = some (.int .i64 s.amt) := r1.cell 2 (by omega)
      clear hs hA hb1 q1 r1
      have gb7 := gb.trans (rb.mono gb.size)
      have hge : w.heap.size ≤ wr.heap.size := gb.size
      have hge7 := gb7.size
      generalize hgU : wr.heap.size = gU at Q1 R7 c0 c1 c2 hW7 hge
      clear rb c0 c1 c2
      cases hv : validB s with
      | true =>
        have hC : Calls Tryz.prog 104 #[.agg (tabv s.v 36)] w7 fun e w' => e = .returned (.bool true) ∧ Below w7.heap.size w7 w' := by have := valid_any s w7; rw [hv] at this; exact this
        have HC := hide hC
        clear hC
        go_wp2_with (first | refine wpW_load_at 34 _ rfl (b) (o + j * 36) (by rfl) (by rfl) _ 36 _ (HA.out) Tryz.underlying34 rfl infoU ?_ | refine wpList_storeU rfl _ _ rfl rfl (gU) (s) rfl rfl _ Q1.out ?_ | refine wpW_load_at 34 _ rfl (gU) (0) (by rfl) (by rfl) _ 36 _ (by first | exact R7.out.at_ 0 (by omega) (fun i hi => by rw [Nat.zero_add]) | (rw [hW7]; exact R7.out.at_ 0 (by omega) (fun i hi => by rw [Nat.zero_add]))) Tryz.underlying34 rfl infoU ?_ | (go_at_call 104; go_must (refine HC.out.mono ?_); rintro e w8 ⟨rfl, hb8⟩))
        go_roundw
        case rel => exact ⟨j + 1, by omega, by go_num, hide (by rw [take_snoc HS.out, List.all_append, HF.out]; simp [hv]), gb7.trans (hb8.mono hge7)⟩
        case measure => simp [intOf]; omega
      | false =>
        have hC : Calls Tryz.prog 104 #[.agg (tabv s.v 36)] w7 fun e w' => e = .returned (.bool false) ∧ Below w7.heap.size w7 w' := by have := valid_any s w7; rw [hv] at this; exact this
        have HC := hide hC
        clear hC
        have hR : R = false := by
          have := HR.out
          rw [← this]
          rw [List.all_eq_false]
          exact ⟨s, List.mem_of_getElem? HS.out, by rw [hv]; simp⟩
        subst hR
        go_wp2_with (first | refine wpW_load_at 34 _ rfl (b) (o + j * 36) (by rfl) (by rfl) _ 36 _ (HA.out) Tryz.underlying34 rfl infoU ?_ | refine wpList_storeU rfl _ _ rfl rfl (gU) (s) rfl rfl _ Q1.out ?_ | refine wpW_load_at 34 _ rfl (gU) (0) (by rfl) (by rfl) _ 36 _ (by first | exact R7.out.at_ 0 (by omega) (fun i hi => by rw [Nat.zero_add]) | (rw [hW7]; exact R7.out.at_ 0 (by omega) (fun i hi => by rw [Nat.zero_add]))) Tryz.underlying34 rfl infoU ?_ | (go_at_call 104; go_must (refine HC.out.mono ?_); rintro e w8 ⟨rfl, hb8⟩))
        go_ret
        exact ⟨rfl, gb7.trans (hb8.mono hge7)⟩
    · have hjn : j = n := by omega
      subst hjn
      have hd : decide ((j : Int) < (j : Int)) = false := decide_eq_false (by omega)
      have hd2 : decide (j < j) = false := decide_eq_false (by omega)
      have hR : R = true := by
        rw [← HR.out]
        have := HF.out
        rw [← HN.out, List.take_length] at this
        exact this
      subst hR
      go_wp2
      go_ret
      exact ⟨rfl, gb⟩
set_option maxRecDepth 100000 in
set_option maxHeartbeats 4000000 in
theorem removals_any (ad : Option Addr) (n cap : Nat) (l : List Upd) (hn : l.length = n) (hz : n ≤ 140737488351232) (w : World) (hS : Upds w ad l) : Calls Tryz.prog 93 #[.slice ad n cap] w fun e w' => ∃ b m, e = .returned (.map (some b)) ∧ RMap w' b m (remK l) ∧ w.heap.size ≤ b ∧ m ≤ n ∧ Below w.heap.size w w' := by
  have HN := hide hn
  have hni : (n : Int) ≤ 140737488351232 := by omega
  have hmm := @run_makeMap Tryz.prog
  have hm0 := RMap.new w
  have gb0 : Below w.heap.size w (w.alloc (.map #[] 0)) := (Below.refl _ w).alloc (Nat.le_refl _) _
  obtain ⟨w1, hw1⟩ : ∃ w1, w.alloc (.map #[] 0) = w1 := ⟨_, rfl⟩
  obtain ⟨bm, hbm⟩ : ∃ bm, w.heap.size = bm := ⟨_, rfl⟩
  have hmk : (Instr.makeMap 133 none).run Tryz.prog w = .ok (.map (some bm)) w1 := by rw [← hw1, ← hbm]; exact hmm _ w
  rw [hw1] at hm0 gb0
  rw [hbm] at hm0
  have hge0 : w.heap.size ≤ bm := by omega
  have HZ := hide hz
  clear hmm hw1 hn hz
  go_enter Tryz.func93, Tryz.ntmps93
  go_wp2
  go_loopw [9] (fun i wr => ∃ j m : Nat, j ≤ n ∧ m ≤ j ∧ i = .int .i64 (j : Int) ∧ RMap wr bm m (remK (l.take j)) ∧ Below w.heap.size w wr) (fun i _ => n - (intOf i).toNat)
  case atStart => exact ⟨0, 0, Nat.zero_le _, Nat.le_refl _, rfl, hm0, gb0⟩
  case round =>
    clear hmk hm0 gb0
    obtain ⟨j, m, hj, hm, rfl, hR, gb⟩ := hrel
    by_cases hlt : j < n
    · have hd : decide ((j : Int) < (n : Int)) = true := decide_eq_true (by omega)
      have hd2 : decide (j < n) = true := decide_eq_true hlt
      have hk0 : (0 : Int) ≤ (j : Int) := by omega
      have hk1 : (j : Int) < (n : Int) := by omega
      obtain ⟨s, hs⟩ : ∃ s, l[j]? = some s := ⟨_, List.getElem?_eq_getElem (by rw [HN.out]; exact hlt)⟩
      obtain ⟨b, o, rfl, hb1, hA⟩ := (hS.below gb).get j s hs
      have HS := hide hs
      have HA := hide hA
      obtain ⟨w6, w7, hW6, q1, hW7, r1, rb⟩ := newU wr s
      have Q1 := hide q1
      have R7 := hide r1
      have c0 : w7.cell? ⟨wr.heap.size, 0, none⟩ = some (.int .i64 s.kind) := r1.cell 0 (by omega)
      have c1 : w7.cell? ⟨wr.heap.size, 1, none⟩ = some (.int .i64 s.id) := r1.cell 1 (by omega)
      have c2 : w7.cell? ⟨wr.heap.size, 2, none⟩ = some (.int .i64 s.amt) := r1.cell 2 (by omega)
      clear hs hA hb1 q1 r1
      have gb7 := gb.trans (rb.mono gb.size)
      have hR7 : RMap w7 bm m (remK (l.take j)) := hR.same (rb.block _ hR.lt)
      have hge7 := gb7.size
      have hbl := hR.lt
      generalize hgU : wr.heap.size = gU at Q1 R7 c0 c1 c2 hW7 hbl
      clear rb hR gb c2
      have EK := hide (fun k => congrArg (fun x => remK x k) (take_snoc HS.out))
      cases hv : validB s with
      | false =>
        have hC : Calls Tryz.prog 104 #[.agg (tabv s.v 36)] w7 fun e w' => e = .returned (.bool false) ∧ Below w7.heap.size w7 w' := by have := valid_any s w7; rw [hv] at this; exact this
        have HC := hide hC
        clear hC
        go_wp2_with (first | refine wpW_load_at 34 _ rfl (b) (o + j * 36) (by rfl) (by rfl) _ 36 _ (HA.out) Tryz.underlying34 rfl infoU ?_ | refine wpList_storeU rfl _ _ rfl rfl (gU) (s) rfl rfl _ Q1.out ?_ | refine wpW_load_at 34 _ rfl (gU) (0) (by rfl) (by rfl) _ 36 _ (by first | exact R7.out.at_ 0 (by omega) (fun i hi => by rw [Nat.zero_add]) | (rw [hW7]; exact R7.out.at_ 0 (by omega) (fun i hi => by rw [Nat.zero_add]))) Tryz.underlying34 rfl infoU ?_ | (go_at_call 104; go_must (refine HC.out.mono ?_); rintro e w8 ⟨rfl, hb8⟩; have d0 := (hb8.cell (p := ⟨gU, 0, none⟩) R7.out.lt).trans c0; have d1 := (hb8.cell (p := ⟨gU, 1, none⟩) R7.out.lt).trans c1; have hR8 := hR7.same (hb8.block _ hR7.lt)))
        go_roundw
        case rel => exact ⟨j + 1, m, by omega, by omega, by go_num, (hR8).congr (fun k _ _ => by rw [EK.out k]; exact rem_step0 (.inl hv) k), gb7.trans (hb8.mono hge7)⟩
        case measure => simp [intOf]; omega
      | true =>
        have hC : Calls Tryz.prog 104 #[.agg (tabv s.v 36)] w7 fun e w' => e = .returned (.bool true) ∧ Below w7.heap.size w7 w' := by have := valid_any s w7; rw [hv] at this; exact this
        have HC := hide hC
        obtain ⟨i0, i1⟩ := valid_idL hv
        have kd := valid_kind hv
        have HI0 := hide i0
        have HI1 := hide i1
        have KD := hide kd
        clear hC i0 i1 kd
        cases hk : (s.kind != 1) with
        | false =>
          go_wp2_with (first | refine wpW_load_at 34 _ rfl (b) (o + j * 36) (by rfl) (by rfl) _ 36 _ (HA.out) Tryz.underlying34 rfl infoU ?_ | refine wpList_storeU rfl _ _ rfl rfl (gU) (s) rfl rfl _ Q1.out ?_ | refine wpW_load_at 34 _ rfl (gU) (0) (by rfl) (by rfl) _ 36 _ (by first | exact R7.out.at_ 0 (by omega) (fun i hi => by rw [Nat.zero_add]) | (rw [hW7]; exact R7.out.at_ 0 (by omega) (fun i hi => by rw [Nat.zero_add]))) Tryz.underlying34 rfl infoU ?_ | (go_at_call 104; go_must (refine HC.out.mono ?_); rintro e w8 ⟨rfl, hb8⟩; have d0 := (hb8.cell (p := ⟨gU, 0, none⟩) R7.out.lt).trans c0; have d1 := (hb8.cell (p := ⟨gU, 1, none⟩) R7.out.lt).trans c1; have hR8 := hR7.same (hb8.block _ hR7.lt)))
          go_roundw
          case rel => exact ⟨j + 1, m, by omega, by omega, by go_num, (hR8).congr (fun k _ _ => by rw [EK.out k]; exact rem_step0 (.inr (.inl hk)) k), gb7.trans (hb8.mono hge7)⟩
          case measure => simp [intOf]; omega
        | true =>
          have hk' : s.kind ≠ 1 := by simpa using hk
          have HK' := hide hk'
          clear hk'
          cases hf : (remK (l.take j) s.id == 0) with
          | false =>
            have hfn : remK (l.take j) s.id ≠ 0 := by simpa using hf
            have HFN := hide hfn
            clear hfn
            go_wp2_with (first | refine wpW_load_at 34 _ rfl (b) (o + j * 36) (by rfl) (by rfl) _ 36 _ (HA.out) Tryz.underlying34 rfl infoU ?_ | refine wpList_storeU rfl _ _ rfl rfl (gU) (s) rfl rfl _ Q1.out ?_ | refine wpW_load_at 34 _ rfl (gU) (0) (by rfl) (by rfl) _ 36 _ (by first | exact R7.out.at_ 0 (by omega) (fun i hi => by rw [Nat.zero_add]) | (rw [hW7]; exact R7.out.at_ 0 (by omega) (fun i hi => by rw [Nat.zero_add]))) Tryz.underlying34 rfl infoU ?_ | (go_at_call 104; go_must (refine HC.out.mono ?_); rintro e w8 ⟨rfl, hb8⟩; have d0 := (hb8.cell (p := ⟨gU, 0, none⟩) R7.out.lt).trans c0; have d1 := (hb8.cell (p := ⟨gU, 1, none⟩) R7.out.lt).trans c1; have hR8 := hR7.same (hb8.block _ hR7.lt); have hL := hR8.look HI0.out HI1.out))
            go_roundw
            case rel => exact ⟨j + 1, m, by omega, by omega, by go_num, (hR8).congr (fun k _ _ => by rw [EK.out k]; exact rem_step0 (.inr (.inr HFN.out)) k), gb7.trans (hb8.mono hge7)⟩
            case measure => simp [intOf]; omega
          | true =>
            have hfe : remK (l.take j) s.id = 0 := by simpa using hf
            have HFE := hide hfe
            clear hfe
            go_wp2_with (first | refine wpW_load_at 34 _ rfl (b) (o + j * 36) (by rfl) (by rfl) _ 36 _ (HA.out) Tryz.underlying34 rfl infoU ?_ | refine wpList_storeU rfl _ _ rfl rfl (gU) (s) rfl rfl _ Q1.out ?_ | refine wpW_load_at 34 _ rfl (gU) (0) (by rfl) (by rfl) _ 36 _ (by first | exact R7.out.at_ 0 (by omega) (fun i hi => by rw [Nat.zero_add]) | (rw [hW7]; exact R7.out.at_ 0 (by omega) (fun i hi => by rw [Nat.zero_add]))) Tryz.underlying34 rfl infoU ?_ | (go_at_call 104; go_must (refine HC.out.mono ?_); rintro e w8 ⟨rfl, hb8⟩; have d0 := (hb8.cell (p := ⟨gU, 0, none⟩) R7.out.lt).trans c0; have d1 := (hb8.cell (p := ⟨gU, 1, none⟩) R7.out.lt).trans c1; have hR8 := hR7.same (hb8.block _ hR7.lt); have hL := hR8.look HI0.out HI1.out; obtain ⟨w9, hu, hR9, hg9⟩ := hR8.put (n := m) (by have := HZ.out; unfold maxLen; omega) HI0.out HI1.out (show 0 ≤ s.kind by have := KD.out; omega) (show s.kind < 2048 by have := KD.out; omega)))
            go_roundw
            case rel => exact ⟨j + 1, m + 1, by omega, by omega, by go_num, (hR9).congr (fun k _ _ => by rw [EK.out k]; exact rem_step1 hv hk HFE.out k), (gb7.trans (hb8.mono hge7)).trans ((Keep.grown (S := (· = bm)) hg9 (fun k hk => by cases hk; rfl)).below (Nat.le_trans hge7 hb8.size) (fun k hk e => by omega))⟩
            case measure => simp [intOf]; omega
    · have hjn : j = n := by omega
      subst hjn
      have hd : decide ((j : Int) < (j : Int)) = false := decide_eq_false (by omega)
      have hd2 : decide (j < j) = false := decide_eq_false (by omega)
      have hR' : RMap wr bm m (remK l) := by
        have h := hR
        rw [← HN.out, List.take_length] at h
        exact h
      clear hR
      go_wp2
      go_ret
      exact ⟨bm, m, rfl, hR', hge0, hm, gb⟩
end Go.Proofs.YtmmcoedgoekhgaaGreatDoor
