/-
  The Add with an ID, the removal of an ID, how many Adds (printed by gen_lists.py).
-/
import Derived.Test.YtmmcoedgoekhgaaGreatDoorUValid
namespace Go.Proofs.YtmmcoedgoekhgaaGreatDoor
set_option maxRecDepth 20000
open Go.RowKit S
set_option linter.unusedVariables false
set_option linter.unusedSimpArgs false
theorem oneV (s : Upd) (i : Nat) : (s.v i).oneCell' = true := by
  unfold Upd.v
  repeat' split
  all_goals rfl
section
variable {ops : Array Oper} {rest : List Oper} {o : Oper} {a : Act} {w : World} {Q : Exit → Act → World → Prop}
theorem wpList_storeU (hgd : o.guard = none) (x y : Operand) (ho : o.op = .store 34 x y) (hd : o.dst = none) (g : Nat) (s : Upd) (hx : a.eval x = .pointer (some ⟨g, 0, none⟩)) (hy : a.eval y = .agg (tabv s.v 36)) (f : Nat → Value) (hg : Has w g 34 f 36)
    (hk : wpList Tryz.prog ops Q rest a (w.setRow g (tabv s.v 36))) : wpList Tryz.prog ops Q (o :: rest) a w :=
  wpList_store_part hgd 34 x y ho hd g 0 s.v 36 hx hy 34 f 36 hg (by omega) infoU (fun i _ => oneV s i) s.v (fun i hi => by unfold splice; rw [if_pos (by omega), Nat.sub_zero]) hk
set_option maxRecDepth 100000 in
theorem builtZ : Tryz.prog.built 34 [] = some (tabv Upd.zero.v 36) := by kernel_rfl
theorem wpList_buildZ (hgd : o.guard = none) (ho : o.op = .build 34 #[])
    (hk : wpList Tryz.prog ops Q rest (a.put o.dst (.agg (tabv Upd.zero.v 36))) w) : wpList Tryz.prog ops Q (o :: rest) a w :=
  wpList_plain hgd fun K hK => by
    have e : ((#[] : Array (Nat × Operand)).map fun (i, y) => (i, a.eval y)).toList = [] := by simp
    refine wp_build _ _ ho (by rw [e, builtZ]; rfl) ?_
    rw [e, builtZ]
    exact hK _ _ hk
end
theorem resU2 (w : World) (g : Nat) (f : Nat → Value) (tmps : Array Value) (k : Value) (c t : Nat) (hg : Has w g 34 f 36) (hp : tmps.getD c undef = .pointer (some ⟨g, 0, none⟩)) (hq : tmps.getD t undef = k) (fn : Func) (h : fn.results = #[.cell c 34, .tmp t]) :
    (results fn tmps).run Tryz.prog w = .ok (.tuple #[.agg (tabv f 36), k]) w := by
  rw [results_cell_tmp h, hp, hq]
  have := run_loadVar_row (P := Tryz.prog) w g 34 34 (tabv f 36) (0, 0) _ hg Tryz.underlying34 rfl (by rw [tabv_size]; exact infoU)
  simp [asAddr, this]
/-- The Add with an ID; the removal of an ID. -/
def isAdd (id : Int) (u : Upd) : Bool := (u.kind == 1) && (u.id == id)
def remB (u : Upd) : Bool := (u.kind == 2) || (u.kind == 3)
def isRem (id : Int) (u : Upd) : Bool := remB u && (u.id == id)
def addsN (l : List Upd) : Nat := (l.filter fun u => u.kind == 1).length
def orZ (o : Option Upd) : Upd := o.getD Upd.zero
section
variable {p : Upd → Bool} {l : List Upd} {j : Nat} {x : Upd}
theorem take_snoc (hx : l[j]? = some x) : l.take (j + 1) = l.take j ++ [x] := by
  obtain ⟨h, rfl⟩ := List.getElem?_eq_some_iff.1 hx
  exact List.take_succ_eq_append_getElem h
theorem find_next (hx : l[j]? = some x) (h0 : (l.take j).find? p = none) (hp : p x = false) : (l.take (j + 1)).find? p = none := by
  rw [take_snoc hx, List.find?_append, h0]; simp [hp]
theorem find_at (hx : l[j]? = some x) (h0 : (l.take j).find? p = none) (hp : p x = true) : l.find? p = some x := by
  have e : (l.take (j + 1) ++ l.drop (j + 1)).find? p = some x := by
    rw [List.find?_append, take_snoc hx, List.find?_append, h0]; simp [hp]
  rwa [List.take_append_drop] at e
theorem find_end (h0 : (l.take l.length).find? p = none) : l.find? p = none := by rwa [List.take_length] at h0
theorem adds_next (hx : l[j]? = some x) (b : Bool) (hb : (x.kind == 1) = b) : addsN (l.take (j + 1)) = addsN (l.take j) + (if b = true then 1 else 0) := by
  unfold addsN; rw [take_snoc hx, List.filter_append, List.length_append]
  cases b <;> simp [hb]
theorem adds_le (l : List Upd) : addsN l ≤ l.length := List.length_filter_le _ _
end
set_option maxHeartbeats 1000000 in
theorem removes_any (u : Upd) (w : World) : Calls Tryz.prog 185 #[.agg (tabv u.v 36)] w fun e w' => e = .returned (.bool (remB u)) ∧ Below w.heap.size w w' := by
  obtain ⟨w3, hW⟩ : ∃ w3, w.alloc (.cells (tabv u.v 36) 34) = w3 := ⟨_, rfl⟩
  have g0 : Has w3 w.heap.size 34 u.v 36 := by rw [← hW]; exact Has.new w 34 u.v 36 _ rfl
  have gb : Below w.heap.size w w3 := by rw [← hW]; exact (Below.refl w.heap.size w).alloc (Nat.le_refl _) _
  have c0 : w3.cell? ⟨w.heap.size, 0, none⟩ = some (.int .i64 u.kind) := g0.cell 0 (by omega)
  clear g0
  cases k2 : (u.kind == 2) with
  | true =>
    rw [show remB u = true by unfold remB; simp [k2]]
    go_enter Tryz.func185, Tryz.ntmps185
    go_wp2
    go_ret
    exact ⟨rfl, gb⟩
  | false =>
    cases k3 : (u.kind == 3) with
    | true =>
      rw [show remB u = true by unfold remB; simp [k3]]
      go_enter Tryz.func185, Tryz.ntmps185
      go_wp2
      go_ret
      exact ⟨rfl, gb⟩
    | false =>
      rw [show remB u = false by unfold remB; simp [k2, k3]]
      go_enter Tryz.func185, Tryz.ntmps185
      go_wp2
      go_ret
      exact ⟨rfl, gb⟩
set_option maxRecDepth 100000 in
set_option maxHeartbeats 2000000 in
theorem find_any (ad : Option Addr) (n cap : Nat) (l : List Upd) (hn : l.length = n) (hz : n ≤ 140737488351232) (id : Int) (w : World) (hS : Upds w ad l) : Calls Tryz.prog 157 #[.slice ad n cap, .int .i64 id] w fun e w' => e = .returned (.tuple #[.agg (tabv (orZ (l.find? (isAdd id))).v 36), .bool (l.find? (isAdd id)).isSome]) ∧ Below w.heap.size w w' := by
  obtain ⟨w3, hW⟩ : ∃ w3, w.alloc (.cells (tabv Upd.zero.v 36) 34) = w3 := ⟨_, rfl⟩
  have g0 : Has w3 w.heap.size 34 Upd.zero.v 36 := by rw [← hW]; exact Has.new w 34 Upd.zero.v 36 _ rfl
  have gb : Below w.heap.size w w3 := by rw [← hW]; exact (Below.refl w.heap.size w).alloc (Nat.le_refl _) _
  rw [← zero36] at hW
  obtain ⟨R, hR⟩ : ∃ R, l.find? (isAdd id) = R := ⟨_, rfl⟩
  rw [hR]
  have HR := hide hR
  have HN := hide hn
  have hni : (n : Int) ≤ 140737488351232 := by omega
  clear hR hn hz
  go_enter Tryz.func157, Tryz.ntmps157
  go_wp2
  go_loopw [10] (fun i wr => ∃ j : Nat, j ≤ n ∧ i = .int .i64 (j : Int) ∧ Hid ((l.take j).find? (isAdd id) = none) ∧ Has wr w.heap.size 34 Upd.zero.v 36 ∧ Below w.heap.size w wr) (fun i _ => n - (intOf i).toNat)
  case atStart => exact ⟨0, Nat.zero_le _, rfl, rfl, g0, gb⟩
  case round =>
    clear g0 gb hW
    obtain ⟨j, hj, rfl, HF, g0, gb⟩ := hrel
    by_cases hlt : j < n
    · have hd : decide ((j : Int) < (n : Int)) = true := decide_eq_true (by omega)
      have hd2 : decide (j < n) = true := decide_eq_true hlt
      have hk0 : (0 : Int) ≤ (j : Int) := by omega
      have hk1 : (j : Int) < (n : Int) := by omega
      obtain ⟨s, hs⟩ : ∃ s, l[j]? = some s := ⟨_, List.getElem?_eq_getElem (by rw [HN.out]; exact hlt)⟩
      obtain ⟨b, o, rfl, hb1, hA⟩ := (hS.below gb).get j s hs
      have HS := hide hs
      have HA := hide hA
      obtain ⟨w6, hW6⟩ : ∃ w6, wr.alloc (.cells (tabv Upd.zero.v 36) 34) = w6 := ⟨_, rfl⟩
      obtain ⟨G2, hG2⟩ : ∃ G2, wr.heap.size = G2 := ⟨_, rfl⟩
      have q1 : Has w6 G2 34 Upd.zero.v 36 := by rw [← hW6, ← hG2]; exact Has.new wr 34 Upd.zero.v 36 _ rfl
      have qb : Below w.heap.size w w6 := by rw [← hW6]; exact gb.alloc gb.size _
      have q0 : Has w6 w.heap.size 34 Upd.zero.v 36 := by rw [← hW6]; exact g0.old _
      have hne : w.heap.size ≠ G2 := by rw [← hG2]; exact Nat.ne_of_lt g0.lt
      have hge2 : w.heap.size ≤ G2 := by rw [← hG2]; exact gb.size
      rw [← zero36] at hW6
      have r0 := q0.row_other G2 (tabv s.v 36) hne
      have r1 := q1.row _ s.v rfl
      have rb := below_setRow qb hge2 (tabv s.v 36)
      have Q1 := hide q1
      generalize hW7 : w6.setRow G2 (tabv s.v 36) = w7 at r0 r1 rb
      have c0 : w7.cell? ⟨G2, 0, none⟩ = some (.int .i64 s.kind) := r1.cell 0 (by omega)
      have c1 : w7.cell? ⟨G2, 1, none⟩ = some (.int .i64 s.id) := r1.cell 1 (by omega)
      have R1 := hide r1
      have R0 := hide r0
      clear r0 r1 q1 qb q0 g0 gb hs hA hb1
      cases k1 : (s.kind == 1) with
      | false =>
        go_wp2_with (first | refine wpW_load_at 34 _ rfl b (o + j * 36) (by rfl) (by rfl) _ 36 _ HA.out Tryz.underlying34 rfl infoU ?_ | refine wpList_storeU rfl _ _ rfl rfl G2 s rfl rfl _ Q1.out ?_)
        go_roundw
        case rel => exact ⟨j + 1, by omega, by go_num, find_next HS.out HF.out (by unfold isAdd; simp [k1]), R0.out, rb⟩
        case measure => simp [intOf]; omega
      | true =>
        cases ki : (s.id == id) with
        | false =>
          go_wp2_with (first | refine wpW_load_at 34 _ rfl b (o + j * 36) (by rfl) (by rfl) _ 36 _ HA.out Tryz.underlying34 rfl infoU ?_ | refine wpList_storeU rfl _ _ rfl rfl G2 s rfl rfl _ Q1.out ?_)
          go_roundw
          case rel => exact ⟨j + 1, by omega, by go_num, find_next HS.out HF.out (by unfold isAdd; simp [ki]), R0.out, rb⟩
          case measure => simp [intOf]; omega
        | true =>
          go_wp2_with (first | refine wpW_load_at 34 _ rfl b (o + j * 36) (by rfl) (by rfl) _ 36 _ HA.out Tryz.underlying34 rfl infoU ?_ | refine wpList_storeU rfl _ _ rfl rfl G2 s rfl rfl _ Q1.out ?_ | refine wpW_load_at 34 _ rfl G2 0 (by rfl) (by rfl) _ 36 _ (by first | exact R1.out.at_ 0 (by omega) (fun i hi => by rw [Nat.zero_add]) | (rw [hW7]; exact R1.out.at_ 0 (by omega) (fun i hi => by rw [Nat.zero_add]))) Tryz.underlying34 rfl infoU ?_ | refine wpList_storeU rfl _ _ rfl rfl w.heap.size s rfl rfl _ R0.out ?_)
          have hfi : R = some s := HR.out.symm.trans (find_at HS.out HF.out (by unfold isAdd; simp [k1, ki]))
          subst hfi
          exact bodyPost_ret (resU2 _ w.heap.size _ _ (.bool true) 4 5 (R0.out.row _ s.v rfl) rfl rfl _ rfl) rfl ⟨rfl, below_setRow rb (Nat.le_refl _) _⟩
    · have hjn : j = n := by omega
      subst hjn
      have hd : decide ((j : Int) < (j : Int)) = false := decide_eq_false (by omega)
      have hd2 : decide (j < j) = false := decide_eq_false (by omega)
      have hfi : R = none := by
        have h := HF.out
        rw [← HN.out] at h
        exact HR.out.symm.trans (find_end h)
      subst hfi
      have G0 := hide g0
      clear g0
      go_wp2_with (first | refine wpList_buildZ rfl rfl ?_ | refine wpList_storeU rfl _ _ rfl rfl w.heap.size Upd.zero rfl rfl _ G0.out ?_)
      exact bodyPost_ret (resU2 _ w.heap.size _ _ (.bool false) 4 5 (G0.out.row _ Upd.zero.v rfl) rfl rfl _ rfl) rfl ⟨rfl, below_setRow gb (Nat.le_refl _) _⟩
set_option maxRecDepth 100000 in
set_option maxHeartbeats 2000000 in
theorem rem_any (ad : Option Addr) (n cap : Nat) (l : List Upd) (hn : l.length = n) (hz : n ≤ 140737488351232) (id : Int) (w : World) (hS : Upds w ad l) : Calls Tryz.prog 141 #[.slice ad n cap, .int .i64 id] w fun e w' => e = .returned (.tuple #[.agg (tabv (orZ (l.find? (isRem id))).v 36), .bool (l.find? (isRem id)).isSome]) ∧ Below w.heap.size w w' := by
  obtain ⟨w3, hW⟩ : ∃ w3, w.alloc (.cells (tabv Upd.zero.v 36) 34) = w3 := ⟨_, rfl⟩
  have g0 : Has w3 w.heap.size 34 Upd.zero.v 36 := by rw [← hW]; exact Has.new w 34 Upd.zero.v 36 _ rfl
  have gb : Below w.heap.size w w3 := by rw [← hW]; exact (Below.refl w.heap.size w).alloc (Nat.le_refl _) _
  rw [← zero36] at hW
  obtain ⟨R, hR⟩ : ∃ R, l.find? (isRem id) = R := ⟨_, rfl⟩
  rw [hR]
  have HR := hide hR
  have HN := hide hn
  have hni : (n : Int) ≤ 140737488351232 := by omega
  clear hR hn hz
  go_enter Tryz.func141, Tryz.ntmps141
  go_wp2
  go_loopw [10] (fun i wr => ∃ j : Nat, j ≤ n ∧ i = .int .i64 (j : Int) ∧ Hid ((l.take j).find? (isRem id) = none) ∧ Has wr w.heap.size 34 Upd.zero.v 36 ∧ Below w.heap.size w wr) (fun i _ => n - (intOf i).toNat)
  case atStart => exact ⟨0, Nat.zero_le _, rfl, rfl, g0, gb⟩
  case round =>
    clear g0 gb hW
    obtain ⟨j, hj, rfl, HF, g0, gb⟩ := hrel
    by_cases hlt : j < n
    · have hd : decide ((j : Int) < (n : Int)) = true := decide_eq_true (by omega)
      have hd2 : decide (j < n) = true := decide_eq_true hlt
      have hk0 : (0 : Int) ≤ (j : Int) := by omega
      have hk1 : (j : Int) < (n : Int) := by omega
      obtain ⟨s, hs⟩ : ∃ s, l[j]? = some s := ⟨_, List.getElem?_eq_getElem (by rw [HN.out]; exact hlt)⟩
      obtain ⟨b, o, rfl, hb1, hA⟩ := (hS.below gb).get j s hs
      have HS := hide hs
      have HA := hide hA
      obtain ⟨w6, hW6⟩ : ∃ w6, wr.alloc (.cells (tabv Upd.zero.v 36) 34) = w6 := ⟨_, rfl⟩
      obtain ⟨G2, hG2⟩ : ∃ G2, wr.heap.size = G2 := ⟨_, rfl⟩
      have q1 : Has w6 G2 34 Upd.zero.v 36 := by rw [← hW6, ← hG2]; exact Has.new wr 34 Upd.zero.v 36 _ rfl
      have qb : Below w.heap.size w w6 := by rw [← hW6]; exact gb.alloc gb.size _
      have q0 : Has w6 w.heap.size 34 Upd.zero.v 36 := by rw [← hW6]; exact g0.old _
      have hne : w.heap.size ≠ G2 := by rw [← hG2]; exact Nat.ne_of_lt g0.lt
      have hge2 : w.heap.size ≤ G2 := by rw [← hG2]; exact gb.size
      rw [← zero36] at hW6
      have r0 := q0.row_other G2 (tabv s.v 36) hne
      have r1 := q1.row _ s.v rfl
      have rb := below_setRow qb hge2 (tabv s.v 36)
      have Q1 := hide q1
      generalize hW7 : w6.setRow G2 (tabv s.v 36) = w7 at r0 r1 rb
      have c0 : w7.cell? ⟨G2, 0, none⟩ = some (.int .i64 s.kind) := r1.cell 0 (by omega)
      have c1 : w7.cell? ⟨G2, 1, none⟩ = some (.int .i64 s.id) := r1.cell 1 (by omega)
      have R1 := hide r1
      have R0 := hide r0
      clear r0 r1 q1 qb q0 g0 gb hs hA hb1
      cases rmB : remB s with
      | false =>
        go_wp2_with (first | refine wpW_load_at 34 _ rfl b (o + j * 36) (by rfl) (by rfl) _ 36 _ HA.out Tryz.underlying34 rfl infoU ?_ | refine wpList_storeU rfl _ _ rfl rfl G2 s rfl rfl _ Q1.out ?_ | refine wpW_load_at 34 _ rfl G2 0 (by rfl) (by rfl) _ 36 _ (by first | exact R1.out.at_ 0 (by omega) (fun i hi => by rw [Nat.zero_add]) | (rw [hW7]; exact R1.out.at_ 0 (by omega) (fun i hi => by rw [Nat.zero_add]))) Tryz.underlying34 rfl infoU ?_ | fail)
        refine (removes_any s _).mono ?_
        rintro e w8 ⟨rfl, hb8⟩
        rw [rmB]
        have R8 := hide (R0.out.below hb8 R0.out.lt)
        have S8 := hide (R1.out.below hb8 R1.out.lt)
        have rb8 := rb.trans (hb8.mono rb.size)
        have d1 : w8.cell? ⟨G2, 1, none⟩ = some (.int .i64 s.id) := S8.out.cell 1 (by omega)
        clear c0 c1 hb8
        go_wp2
        go_roundw
        case rel => exact ⟨j + 1, by omega, by go_num, find_next HS.out HF.out (by unfold isRem; simp [rmB]), R8.out, rb8⟩
        case measure => simp [intOf]; omega
      | true =>
        cases ki : (s.id == id) with
        | false =>
          go_wp2_with (first | refine wpW_load_at 34 _ rfl b (o + j * 36) (by rfl) (by rfl) _ 36 _ HA.out Tryz.underlying34 rfl infoU ?_ | refine wpList_storeU rfl _ _ rfl rfl G2 s rfl rfl _ Q1.out ?_ | refine wpW_load_at 34 _ rfl G2 0 (by rfl) (by rfl) _ 36 _ (by first | exact R1.out.at_ 0 (by omega) (fun i hi => by rw [Nat.zero_add]) | (rw [hW7]; exact R1.out.at_ 0 (by omega) (fun i hi => by rw [Nat.zero_add]))) Tryz.underlying34 rfl infoU ?_ | fail)
          refine (removes_any s _).mono ?_
          rintro e w8 ⟨rfl, hb8⟩
          rw [rmB]
          have R8 := hide (R0.out.below hb8 R0.out.lt)
          have S8 := hide (R1.out.below hb8 R1.out.lt)
          have rb8 := rb.trans (hb8.mono rb.size)
          have d1 : w8.cell? ⟨G2, 1, none⟩ = some (.int .i64 s.id) := S8.out.cell 1 (by omega)
          clear c0 c1 hb8
          go_wp2
          go_roundw
          case rel => exact ⟨j + 1, by omega, by go_num, find_next HS.out HF.out (by unfold isRem; simp [ki]), R8.out, rb8⟩
          case measure => simp [intOf]; omega
        | true =>
          go_wp2_with (first | refine wpW_load_at 34 _ rfl b (o + j * 36) (by rfl) (by rfl) _ 36 _ HA.out Tryz.underlying34 rfl infoU ?_ | refine wpList_storeU rfl _ _ rfl rfl G2 s rfl rfl _ Q1.out ?_ | refine wpW_load_at 34 _ rfl G2 0 (by rfl) (by rfl) _ 36 _ (by first | exact R1.out.at_ 0 (by omega) (fun i hi => by rw [Nat.zero_add]) | (rw [hW7]; exact R1.out.at_ 0 (by omega) (fun i hi => by rw [Nat.zero_add]))) Tryz.underlying34 rfl infoU ?_ | fail)
          refine (removes_any s _).mono ?_
          rintro e w8 ⟨rfl, hb8⟩
          rw [rmB]
          have R8 := hide (R0.out.below hb8 R0.out.lt)
          have S8 := hide (R1.out.below hb8 R1.out.lt)
          have rb8 := rb.trans (hb8.mono rb.size)
          have d1 : w8.cell? ⟨G2, 1, none⟩ = some (.int .i64 s.id) := S8.out.cell 1 (by omega)
          clear c0 c1 hb8
          go_wp2_with (first | refine wpW_load_at 34 _ rfl G2 0 (by rfl) (by rfl) _ 36 _ (S8.out.at_ 0 (by omega) (fun i hi => by rw [Nat.zero_add])) Tryz.underlying34 rfl infoU ?_ | refine wpList_storeU rfl _ _ rfl rfl w.heap.size s rfl rfl _ R8.out ?_)
          have hfi : R = some s := HR.out.symm.trans (find_at HS.out HF.out (by unfold isRem; simp [rmB, ki]))
          subst hfi
          exact bodyPost_ret (resU2 _ w.heap.size _ _ (.bool true) 4 5 (R8.out.row _ s.v rfl) rfl rfl _ rfl) rfl ⟨rfl, below_setRow rb8 (Nat.le_refl _) _⟩
    · have hjn : j = n := by omega
      subst hjn
      have hd : decide ((j : Int) < (j : Int)) = false := decide_eq_false (by omega)
      have hd2 : decide (j < j) = false := decide_eq_false (by omega)
      have hfi : R = none := by
        have h := HF.out
        rw [← HN.out] at h
        exact HR.out.symm.trans (find_end h)
      subst hfi
      have G0 := hide g0
      clear g0
      go_wp2_with (first | refine wpList_buildZ rfl rfl ?_ | refine wpList_storeU rfl _ _ rfl rfl w.heap.size Upd.zero rfl rfl _ G0.out ?_)
      exact bodyPost_ret (resU2 _ w.heap.size _ _ (.bool false) 4 5 (G0.out.row _ Upd.zero.v rfl) rfl rfl _ rfl) rfl ⟨rfl, below_setRow gb (Nat.le_refl _) _⟩
set_option maxRecDepth 100000 in
set_option maxHeartbeats 2000000 in
theorem adds_any (ad : Option Addr) (n cap : Nat) (l : List Upd) (hn : l.length = n) (hz : n ≤ 140737488351232) (w : World) (hS : Upds w ad l) : Calls Tryz.prog 156 #[.slice ad n cap] w fun e w' => e = .returned (.int .i64 (addsN l : Int)) ∧ Below w.heap.size w w' := by
  have HN := hide hn
  have HZ := hide hz
  have hni : (n : Int) ≤ 140737488351232 := by omega
  clear hn hz
  go_enter Tryz.func156, Tryz.ntmps156
  go_wp2
  go_loopw [3, 8] (fun c i wr => ∃ j : Nat, j ≤ n ∧ i = .int .i64 (j : Int) ∧ c = .int .i64 (addsN (l.take j) : Int) ∧ Below w.heap.size w wr) (fun _ i _ => n - (intOf i).toNat)
  case atStart => exact ⟨0, Nat.zero_le _, rfl, rfl, Below.refl _ _⟩
  case round =>
    obtain ⟨j, hj, rfl, rfl, gb⟩ := hrel
    by_cases hlt : j < n
    · have hd : decide ((j : Int) < (n : Int)) = true := decide_eq_true (by omega)
      have hd2 : decide (j < n) = true := decide_eq_true hlt
      have hk0 : (0 : Int) ≤ (j : Int) := by omega
      have hk1 : (j : Int) < (n : Int) := by omega
      obtain ⟨s, hs⟩ : ∃ s, l[j]? = some s := ⟨_, List.getElem?_eq_getElem (by rw [HN.out]; exact hlt)⟩
      obtain ⟨b, o, rfl, hb1, hA⟩ := (hS.below gb).get j s hs
      have HS := hide hs
      have HA := hide hA
      obtain ⟨K, hK⟩ : ∃ K, addsN (l.take j) = K := ⟨_, rfl⟩
      have hKj : K ≤ j := by rw [← hK]; exact Nat.le_trans (adds_le _) (by rw [List.length_take]; omega)
      have HK := hide hK
      rw [hK]
      have hKb : (K : Int) ≤ 140737488351232 := by have := HZ.out; omega
      have hK0 : (0 : Int) ≤ (K : Int) := by omega
      clear hK hKj
      obtain ⟨w6, hW6⟩ : ∃ w6, wr.alloc (.cells (tabv Upd.zero.v 36) 34) = w6 := ⟨_, rfl⟩
      obtain ⟨G2, hG2⟩ : ∃ G2, wr.heap.size = G2 := ⟨_, rfl⟩
      have q1 : Has w6 G2 34 Upd.zero.v 36 := by rw [← hW6, ← hG2]; exact Has.new wr 34 Upd.zero.v 36 _ rfl
      have qb : Below w.heap.size w w6 := by rw [← hW6]; exact gb.alloc gb.size _
      have hge2 : w.heap.size ≤ G2 := by rw [← hG2]; exact gb.size
      rw [← zero36] at hW6
      have r1 := q1.row _ s.v rfl
      have rb := below_setRow qb hge2 (tabv s.v 36)
      have Q1 := hide q1
      generalize hW7 : w6.setRow G2 (tabv s.v 36) = w7 at r1 rb
      have c0 : w7.cell? ⟨G2, 0, none⟩ = some (.int .i64 s.kind) := r1.cell 0 (by omega)
      clear r1 q1 qb gb hs hA hb1
      cases k1 : (s.kind == 1) with
      | false =>
        go_wp2_with (first | refine wpW_load_at 34 _ rfl b (o + j * 36) (by rfl) (by rfl) _ 36 _ HA.out Tryz.underlying34 rfl infoU ?_ | refine wpList_storeU rfl _ _ rfl rfl G2 s rfl rfl _ Q1.out ?_)
        go_roundw
        case rel => exact ⟨j + 1, by omega, by go_num, by rw [adds_next HS.out _ k1, HK.out]; simp, rb⟩
        case measure => simp [intOf]; omega
      | true =>
        go_wp2_with (first | refine wpW_load_at 34 _ rfl b (o + j * 36) (by rfl) (by rfl) _ 36 _ HA.out Tryz.underlying34 rfl infoU ?_ | refine wpList_storeU rfl _ _ rfl rfl G2 s rfl rfl _ Q1.out ?_)
        go_roundw
        case rel => exact ⟨j + 1, by omega, by go_num, by rw [adds_next HS.out _ k1, HK.out, if_pos rfl]; exact int_eq (by omega), rb⟩
        case measure => simp [intOf]; omega
    · have hjn : j = n := by omega
      subst hjn
      have hd : decide ((j : Int) < (j : Int)) = false := decide_eq_false (by omega)
      have hd2 : decide (j < j) = false := decide_eq_false (by omega)
      go_wp2
      go_ret
      exact ⟨by rw [show l.take j = l from by rw [← HN.out]; exact List.take_length]; rfl, gb⟩
end Go.Proofs.YtmmcoedgoekhgaaGreatDoor
