import Derived.Test.YtlkimfmilccanaaGreatPower
/-
  find, Size, Off, Arm, Fall, New.
-/
namespace Go.Proofs.YtlkimfmilccanaaGreat
open Go.RowKit Go.Maps Go.WideMaps
theorem zeroPF (w : World) : (zeroValue 94).run Tryz.prog w = .ok (.pointer none) w := by kernel_rfl
theorem ptrElem_nil : ptrElem (.pointer none) = some (.nil, []) := rfl
theorem ptrElem_nil_inv {v : Value} {ps : List MemPlace} (h : ptrElem v = some (.nil, ps)) : v = .pointer none := by
  unfold ptrElem at h
  split at h
  · split at h <;> cases h
  · rfl
  · cases h
section
variable {w : World} {p m : Nat} {con : Key → FC} {A : AD}
theorem look_some (h : DiskAt w p m con A) (s : ByteArray) (hs : s.size ≤ maxLen) {F : AF} (hk : fget A.fs s.data.toList = some F) :
    (Instr.lookup 82 (.map (some m)) (.string s) true).run Tryz.prog w = .ok (.tuple #[.pointer (some ⟨(con s.data.toList).g, 0, none⟩), .bool true]) w ∧
    (Instr.lookup 82 (.map (some m)) (.string s) false).run Tryz.prog w = .ok (.pointer (some ⟨(con s.data.toList).g, 0, none⟩)) w := by
  obtain ⟨v, ps, hr, hv⟩ := h.files.look_ok law9 Tryz.underlying82 (zeroPF w) ptrElem_nil (keyOf_string_mk Tryz.underlying9 hs)
  obtain ⟨v', ps', hr', hv'⟩ := h.files.lookup law9 Tryz.underlying82 (zeroPF w) ptrElem_nil (keyOf_string_mk Tryz.underlying9 hs)
  rw [fsD_at hk] at hv hv'
  rw [fsD_has, hk] at hr
  rw [hr, hr', ptrElem_inv hv, ptrElem_inv hv']
  exact ⟨rfl, rfl⟩
theorem look_none (h : DiskAt w p m con A) (s : ByteArray) (hs : s.size ≤ maxLen) (hk : fget A.fs s.data.toList = none) :
    (Instr.lookup 82 (.map (some m)) (.string s) true).run Tryz.prog w = .ok (.tuple #[.pointer none, .bool false]) w ∧
    (Instr.lookup 82 (.map (some m)) (.string s) false).run Tryz.prog w = .ok (.pointer none) w := by
  obtain ⟨v, ps, hr, hv⟩ := h.files.look_ok law9 Tryz.underlying82 (zeroPF w) ptrElem_nil (keyOf_string_mk Tryz.underlying9 hs)
  obtain ⟨v', ps', hr', hv'⟩ := h.files.lookup law9 Tryz.underlying82 (zeroPF w) ptrElem_nil (keyOf_string_mk Tryz.underlying9 hs)
  rw [fsD_none hk] at hv hv'
  rw [fsD_has, hk] at hr
  rw [hr, hr', ptrElem_nil_inv hv, ptrElem_nil_inv hv']
  exact ⟨rfl, rfl⟩
end
set_option maxHeartbeats 400000 in
theorem find_any (p m : Nat) (con : Key → FC) (A : AD) (w : World) (h : DiskAt w p m con A) (s : ByteArray) (hs : s.size ≤ maxLen) :
    Calls Tryz.prog 41 #[.pointer (some ⟨p, 0, none⟩), .string s] w fun e w' => w' = w ∧
      ((A.pow.off = true ∧ e = .returned (.tuple #[.pointer none, .int .i64 9])) ∨ (A.pow.off = false ∧ fget A.fs s.data.toList = none ∧ e = .returned (.tuple #[.pointer none, .int .i64 5])) ∨
        ∃ F, A.pow.off = false ∧ fget A.fs s.data.toList = some F ∧ e = .returned (.tuple #[.pointer (some ⟨(con s.data.toList).g, 0, none⟩), .int .i64 0])) := by
  have HH := hide h
  have c1 := h.c1
  have c2 := h.c2
  clear h
  cases ho : A.pow.off with
  | true =>
    rw [ho] at c2
    go_enter Tryz.func41, Tryz.ntmps41
    go_wp2
    go_ret2
    exact ⟨rfl, .inl ⟨by first | rfl | trivial, rfl⟩⟩
  | false =>
    rw [ho] at c2
    cases hk : fget A.fs s.data.toList with
    | none =>
      have hl := (look_none HH.out s hs hk).1
      go_enter Tryz.func41, Tryz.ntmps41
      go_wp2
      go_ret2
      exact ⟨rfl, .inr (.inl ⟨by first | rfl | trivial, by first | rfl | trivial, rfl⟩)⟩
    | some F =>
      have hl := (look_some HH.out s hs hk).1
      go_enter Tryz.func41, Tryz.ntmps41
      go_wp2
      go_ret2
      exact ⟨rfl, .inr (.inr ⟨F, by first | rfl | trivial, by first | rfl | trivial, rfl⟩)⟩
theorem size_of {A : AD} {k : Key} {F : AF} (ho : A.pow.off = false) (hk : fget A.fs k = some F) : A.size k = ((F.seen.length : Int), 0) := by unfold AD.size; rw [ho, hk]; rfl
set_option maxHeartbeats 400000 in
theorem size_any (p m : Nat) (con : Key → FC) (A : AD) (w : World) (h : DiskAt w p m con A) (s : ByteArray) (hs : s.size ≤ maxLen) :
    Calls Tryz.prog 32 #[.pointer (some ⟨p, 0, none⟩), .string s] w fun e w' => w' = w ∧ e = .returned (.tuple #[.int .i64 (A.size s.data.toList).1, .int .i64 (A.size s.data.toList).2]) := by
  have HH := hide h
  clear h
  go_enter Tryz.func32, Tryz.ntmps32
  go_wp2_with fail
  refine (find_any p m con A _ HH.out s hs).mono ?_
  rintro e w1 ⟨rfl, ⟨ho, rfl⟩ | ⟨ho, hk, rfl⟩ | ⟨F, ho, hk, rfl⟩⟩
  · have e : A.size s.data.toList = (0, 9) := by unfold AD.size; rw [ho]; rfl
    have HE := hide e
    clear e
    go_wp2
    go_ret2
    exact ⟨rfl, by rw [HE.out]; rfl⟩
  · have e : A.size s.data.toList = (0, 5) := by unfold AD.size; rw [ho, hk]; rfl
    have HE := hide e
    clear e
    go_wp2
    go_ret2
    exact ⟨rfl, by rw [HE.out]; rfl⟩
  · have HE := hide (size_of ho hk)
    have hf := HH.out.file _ F hk
    have c0 := hf.c0
    obtain ⟨ad, cp, hv⟩ := hf.seen.shape
    rw [hv] at c0
    clear hf hk
    go_wp2
    go_ret2
    exact ⟨rfl, by rw [HE.out]; rfl⟩
theorem off_any (p m : Nat) (con : Key → FC) (A : AD) (w : World) (h : DiskAt w p m con A) : Calls Tryz.prog 28 #[.pointer (some ⟨p, 0, none⟩)] w fun e w' => w' = w ∧ e = .returned (.bool A.pow.off) := by
  have c2 := h.c2
  clear h
  go_enter Tryz.func28, Tryz.ntmps28
  go_wp2
  go_ret
  exact ⟨rfl, rfl⟩
set_option maxHeartbeats 400000 in
theorem fall_any (p m : Nat) (con : Key → FC) (A : AD) (w : World) (h : DiskAt w p m con A) (n : Int) (hn : -9223372036854775808 ≤ n ∧ n < 9223372036854775808) :
    Calls Tryz.prog 24 #[.pointer (some ⟨p, 0, none⟩), .int .i64 n] w fun e w' => e = .returned (.tuple #[]) ∧ DiskAt w' p m con (A.fallen n) ∧ Turn (fun b => b = p) w w' := by
  have HH := hide h
  have c6 := h.c6
  have f6 := h.fz 6
  have HT : Hid (∀ x : Int, 0 ≤ x → x < 9223372036854775808 → DiskAt (w.setCell ⟨p, 6, none⟩ (.int .i64 x)) p m con { A with pow := { A.pow with fall := x } } ∧ Turn (fun b => b = p) w (w.setCell ⟨p, 6, none⟩ (.int .i64 x))) := fun x h0 h1 => by
    have t := tset (Turn.refl (fun b => b = p) w) 6 (.int .i64 x)
    exact ⟨h.setPow ⟨h.ok.pow.a0, h.ok.pow.a1, h0, h1, h.ok.pow.w0, h.ok.pow.w1⟩ t (DCells.fall h.cells x), t⟩
  clear h
  by_cases h0 : n < 0
  · have e : A.fallen n = { A with pow := { A.pow with fall := 0 } } := by unfold AD.fallen; rw [Int.max_eq_right (by omega)]
    have hm : max n 0 = 0 := Int.max_eq_right (by omega)
    have HE := hide e
    clear e
    go_enter Tryz.func24, Tryz.ntmps24
    go_wp2
    go_end0
    rw [HE.out]
    exact ⟨rfl, HT.out 0 (by omega) (by omega)⟩
  · have e : A.fallen n = { A with pow := { A.pow with fall := n } } := by unfold AD.fallen; rw [Int.max_eq_left (by omega)]
    have hm : max n 0 = n := Int.max_eq_left (by omega)
    have HE := hide e
    clear e
    go_enter Tryz.func24, Tryz.ntmps24
    go_wp2
    go_end0
    rw [HE.out]
    exact ⟨rfl, HT.out n (by omega) (by omega)⟩
set_option maxHeartbeats 400000 in
theorem arm_any (p m : Nat) (con : Key → FC) (A : AD) (w : World) (h : DiskAt w p m con A) (n x : Int) (hn : -9223372036854775808 ≤ n ∧ n < 9223372036854775808) :
    Calls Tryz.prog 23 #[.pointer (some ⟨p, 0, none⟩), .int .i64 n, .int .i64 x] w fun e w' => e = .returned (.tuple #[]) ∧ DiskAt w' p m con (A.armed n x) ∧ Turn (fun b => b = p) w w' := by
  have HH := hide h
  have c4 := h.c4
  have f4 := h.fz 4
  have c5 := h.c5
  have f5 := h.fz 5
  have HT : Hid (∀ y z : Int, 0 ≤ y → y < 9223372036854775808 → 0 ≤ z → z ≤ 2 → DiskAt ((w.setCell ⟨p, 4, none⟩ (.int .i64 y)).setCell ⟨p, 5, none⟩ (.int .i64 z)) p m con { A with pow := { A.pow with arm := y, what := z } } ∧ Turn (fun b => b = p) w ((w.setCell ⟨p, 4, none⟩ (.int .i64 y)).setCell ⟨p, 5, none⟩ (.int .i64 z))) := fun y z h0 h1 h2 h3 => by
    have t := tset (tset (Turn.refl (fun b => b = p) w) 4 (.int .i64 y)) 5 (.int .i64 z)
    exact ⟨h.setPow ⟨h0, h1, h.ok.pow.f0, h.ok.pow.f1, h2, h3⟩ t (DCells.what (DCells.arm h.cells y) z), t⟩
  clear h
  by_cases h1 : n < 1
  · have e : A.armed n x = { A with pow := { A.pow with arm := 0, what := 0 } } := by unfold AD.armed; rw [if_pos (.inl h1)]
    have d1 : decide (n < 1) = true := decide_eq_true h1
    have HE := hide e
    clear e
    go_enter Tryz.func23, Tryz.ntmps23
    go_wp2
    go_end0
    rw [HE.out]
    exact ⟨rfl, HT.out 0 0 (by omega) (by omega) (by omega) (by omega)⟩
  · have d1 : decide (n < 1) = false := decide_eq_false h1
    by_cases h2 : x < 0
    · have e : A.armed n x = { A with pow := { A.pow with arm := 0, what := 0 } } := by unfold AD.armed; rw [if_pos (.inr (.inl h2))]
      have d2 : decide (x < 0) = true := decide_eq_true h2
      have HE := hide e
      clear e
      go_enter Tryz.func23, Tryz.ntmps23
      go_wp2
      go_end0
      rw [HE.out]
      exact ⟨rfl, HT.out 0 0 (by omega) (by omega) (by omega) (by omega)⟩
    · have d2 : decide (x < 0) = false := decide_eq_false h2
      by_cases h3 : 2 < x
      · have e : A.armed n x = { A with pow := { A.pow with arm := 0, what := 0 } } := by unfold AD.armed; rw [if_pos (.inr (.inr h3))]
        have d3 : decide (2 < x) = true := decide_eq_true h3
        have HE := hide e
        clear e
        go_enter Tryz.func23, Tryz.ntmps23
        go_wp2
        go_end0
        rw [HE.out]
        exact ⟨rfl, HT.out 0 0 (by omega) (by omega) (by omega) (by omega)⟩
      · have d3 : decide (2 < x) = false := decide_eq_false h3
        have e : A.armed n x = { A with pow := { A.pow with arm := n, what := x } } := by unfold AD.armed; rw [if_neg (by omega)]
        have HE := hide e
        clear e
        go_enter Tryz.func23, Tryz.ntmps23
        go_wp2
        go_end0
        rw [HE.out]
        exact ⟨rfl, HT.out n x (by omega) (by omega) (by omega) (by omega)⟩
theorem size_alloc (w : World) (o : Obj) : (w.alloc o).heap.size = w.heap.size + 1 := by simp
/-- A disk as New gives it. -/
def AD.fresh (cap : Int) : AD := ⟨cap, [], ⟨false, false, 0, 0, 0⟩⟩
def FC.void : FC := ⟨0, 0, .slice none 0 0, .slice none 0 0⟩
theorem new_disk (w : World) (cap : Int) (h0 : 0 ≤ cap) (h1 : cap ≤ 16777216) : DiskAt ((w.alloc (.map #[] 0)).alloc (.cells #[.int .i64 cap, .map (some w.heap.size), .bool false, .bool false, .int .i64 0, .int .i64 0, .int .i64 0] 86)) (w.heap.size + 1) w.heap.size (fun _ => FC.void) (AD.fresh cap) := by
  refine ⟨⟨h0, h1, List.Pairwise.nil, by simp [AD.fresh], by simp [AD.fresh], by simp [AD.fresh], by simpa [AD.fresh, fused] using h0, ⟨by simp [AD.fresh], by simp [AD.fresh], by simp [AD.fresh], by simp [AD.fresh], by simp [AD.fresh], by simp [AD.fresh]⟩⟩, ?_, ?_, fun k F hk => ?_, fun k F hk => ?_, fun k F k' F' hk => ?_⟩
  · have := heap_alloc_new (w.alloc (.map #[] 0)) (.cells #[.int .i64 cap, .map (some w.heap.size), .bool false, .bool false, .int .i64 0, .int .i64 0, .int .i64 0] 86)
    rw [size_alloc] at this
    exact this
  · exact ((World.ownsMap_made w Tryz.prog 9 ptrElem).mono (by omega)).alloc _
  · simp [AD.fresh, fget] at hk
  · simp [AD.fresh, fget] at hk
  · simp [AD.fresh, fget] at hk
set_option maxHeartbeats 400000 in
theorem new_bad (w : World) (cap : Int) (h : cap < 0 ∨ 16777216 < cap) : Calls Tryz.prog 8 #[.int .i64 cap] w fun e w' => e = .returned (.tuple #[.pointer none, .int .i64 1]) ∧ w' = w := by
  by_cases h1 : cap < 0
  · have d1 : decide (cap < 0) = true := decide_eq_true h1
    clear h
    go_enter Tryz.func8, Tryz.ntmps8
    go_wp2
    go_ret2
    exact ⟨rfl, rfl⟩
  · have d1 : decide (cap < 0) = false := decide_eq_false h1
    have d2 : decide (16777216 < cap) = true := decide_eq_true (h.resolve_left h1)
    clear h
    go_enter Tryz.func8, Tryz.ntmps8
    go_wp2
    go_ret2
    exact ⟨rfl, rfl⟩
set_option maxHeartbeats 400000 in
theorem new_good (w : World) (cap : Int) (h0 : 0 ≤ cap) (h1 : cap ≤ 16777216) : Calls Tryz.prog 8 #[.int .i64 cap] w fun e w' =>
    e = .returned (.tuple #[.pointer (some ⟨w.heap.size + 1, 0, none⟩), .int .i64 0]) ∧ DiskAt w' (w.heap.size + 1) w.heap.size (fun _ => FC.void) (AD.fresh cap) ∧ Below w.heap.size w w' := by
  have hmm := @run_makeMap Tryz.prog
  have d1 : decide (cap < 0) = false := decide_eq_false (by omega)
  have d2 : decide (16777216 < cap) = false := decide_eq_false (by omega)
  have HN := hide (new_disk w cap h0 h1)
  have HB : Hid (Below w.heap.size w ((w.alloc (.map #[] 0)).alloc (.cells #[.int .i64 cap, .map (some w.heap.size), .bool false, .bool false, .int .i64 0, .int .i64 0, .int .i64 0] 86))) := ((Below.refl _ _).alloc (Nat.le_refl _) _).alloc (by simp) _
  go_enter Tryz.func8, Tryz.ntmps8
  go_wp2
  go_ret2
  exact ⟨by simp, HN.out, HB.out⟩
end Go.Proofs.YtlkimfmilccanaaGreat
/-
  Going through the files and through the dirty sectors; Used.
-/
namespace Go.Proofs.YtlkimfmilccanaaGreat
open Go.RowKit Go.Maps Go.WideMaps
section
variable {ops : Array Oper} {rest : List Oper} {o : Oper} {a : Act} {Q : Exit → Act → World → Prop}
theorem wpList_range_files (w : World) (hg : o.guard = none) (mo : Operand) (hop : o.op = Op.range 82 mo) (con : Key → FC) (fs : FList) (m : Nat) (hm : a.eval mo = .map (some m)) (hown : w.ownsMap Tryz.prog 9 ptrElem m 16 (fsD con fs))
    (hK : ∀ w', w'.ranges Tryz.prog 9 ptrElem m w.heap.size 16 (fsD con fs) (Maps.has (fsD con fs)) (Maps.size (fsD con fs)) → Below w.heap.size w w' → w.heap.size < w'.heap.size → wpList Tryz.prog ops Q rest (a.put o.dst (.pointer (some ⟨w.heap.size, 0, none⟩))) w') :
    wpList Tryz.prog ops Q (o :: rest) a w :=
  wpList_range_own w hg mo 82 hop 9 94 law9 Tryz.underlying82 ptrElem m 16 (fsD con fs) hm hown (fun w' h1 h2 h3 => hK w' h1 (grown_below h2 (fun k hk => by cases hk) (Nat.le_refl _)) (by omega))
theorem wpList_next_files (w : World) (hg : o.guard = none) (it : Operand) (hop : o.op = Op.next it false) (con : Key → FC) (fs : FList) (m r : Nat) (left : Lit → Bool) (cnt : Nat) (hit : a.eval it = .pointer (some ⟨r, 0, none⟩)) (h : w.ranges Tryz.prog 9 ptrElem m r 16 (fsD con fs) left cnt)
    (hDone : (∀ kl, left kl = false) → wpList Tryz.prog ops Q rest (a.put o.dst (.tuple #[.bool false])) w)
    (hMore : ∀ (s : ByteArray) (F : AF) (w' : World) (cnt' : Nat), fget fs s.data.toList = some F → s.size ≤ maxLen → left (.string s.data.toList) = true → w'.ranges Tryz.prog 9 ptrElem m r 16 (fsD con fs) (fun z => left z && !z.sameKey (.string s.data.toList)) cnt' → cnt' < cnt →
      w.grownBy w' (some r) → (Instr.entry (.pointer (some ⟨r, 0, none⟩))).run Tryz.prog w' = .ok (.tuple #[.string s, .pointer (some ⟨(con s.data.toList).g, 0, none⟩)]) w' → wpList Tryz.prog ops Q rest (a.put o.dst (.tuple #[.bool true, .string s, .pointer (some ⟨(con s.data.toList).g, 0, none⟩)])) w') :
    wpList Tryz.prog ops Q (o :: rest) a w := by
  refine wpList_next_ranges w hg it hop 9 law9 ptrElem (fun s : ByteArray => Value.string s) Value.pointer (fun key kl hk => ?_) (fun v y hv => ?_) m r 16 _ left cnt hit h (fun _ hl => hDone hl) ?_
  · obtain ⟨s, rfl, _⟩ := string_of_keyOf Tryz.underlying9 hk
    exact ⟨s, rfl⟩
  · unfold ptrElem at hv
    split at hv
    · exact ⟨_, rfl⟩
    · exact ⟨_, rfl⟩
    · cases hv
  · intro s c kl y w' cnt' hkey hlk hv hat hrg hlt hgr hsz hen
    obtain ⟨s', es, rfl, hs⟩ := string_of_keyOf Tryz.underlying9 hkey
    cases es
    have hh := has_true_of_atKey hat
    rw [fsD_has] at hh
    obtain ⟨F, hF⟩ := Option.isSome_iff_exists.1 hh
    have h1 := hat .nil
    rw [fsD_at hF] at h1
    obtain ⟨yd, yp⟩ := y
    simp only at h1
    rw [← h1] at hv
    have hc := ptrElem_inv hv
    rw [hc] at hen ⊢
    exact hMore s F w' cnt' hF hs hlk hrg hlt hgr hen
theorem wpList_range_dirty (w : World) (hg : o.guard = none) (mo : Operand) (hop : o.op = Op.range 97 mo) (F : AF) (m : Nat) (hm : a.eval mo = .map (some m)) (hown : w.ownsMap Tryz.prog 3 (unitElem (H := Unit)) m 16384 (dirtyD F))
    (hK : ∀ w', w'.ranges Tryz.prog 3 (unitElem (H := Unit)) m w.heap.size 16384 (dirtyD F) (Maps.has (dirtyD F)) (Maps.size (dirtyD F)) → Below w.heap.size w w' → w.heap.size < w'.heap.size → wpList Tryz.prog ops Q rest (a.put o.dst (.pointer (some ⟨w.heap.size, 0, none⟩))) w') :
    wpList Tryz.prog ops Q (o :: rest) a w :=
  wpList_range_own w hg mo 97 hop 3 136 law3 Tryz.underlying97 unitElem m 16384 (dirtyD F) hm hown (fun w' h1 h2 h3 => hK w' h1 (grown_below h2 (fun k hk => by cases hk) (Nat.le_refl _)) (by omega))
theorem wpList_next_set (w : World) (hg : o.guard = none) (it : Operand) (hop : o.op = Op.next it false) (D : DataW Unit) (m r n : Nat) (left : Lit → Bool) (cnt : Nat) (hit : a.eval it = .pointer (some ⟨r, 0, none⟩)) (h : w.ranges Tryz.prog 3 (unitElem (H := Unit)) m r n D left cnt)
    (hDone : (∀ kl, left kl = false) → wpList Tryz.prog ops Q rest (a.put o.dst (.tuple #[.bool false])) w)
    (hMore : ∀ (s : Int) (w' : World) (cnt' : Nat), Maps.has D (.int .i64 s) = true → (Lit.int .i64 s).wf = true → left (.int .i64 s) = true → w'.ranges Tryz.prog 3 (unitElem (H := Unit)) m r n D (fun z => left z && !z.sameKey (.int .i64 s)) cnt' → cnt' < cnt →
      w.grownBy w' (some r) → (Instr.entry (.pointer (some ⟨r, 0, none⟩))).run Tryz.prog w' = .ok (.tuple #[.int .i64 s, .agg #[]]) w' → wpList Tryz.prog ops Q rest (a.put o.dst (.tuple #[.bool true, .int .i64 s, .agg #[]])) w') :
    wpList Tryz.prog ops Q (o :: rest) a w := by
  refine wpList_next_ranges w hg it hop 3 law3 unitElem (Value.int .i64) (fun _ : Unit => Value.agg #[]) (fun key kl hk => ?_) (fun v y hv => ?_) m r n _ left cnt hit h (fun _ hl => hDone hl) ?_
  · obtain ⟨x, rfl, _⟩ := Maps.keyOf_int_inv Tryz.underlying3 hk
    exact ⟨x, rfl⟩
  · exact ⟨(), (unitElem_inv hv).1⟩
  · intro s c kl y w' cnt' hkey hlk hv hat hrg hlt hgr hsz hen
    obtain ⟨x, ex, rfl, hwf⟩ := Maps.keyOf_int_inv Tryz.underlying3 hkey
    cases ex
    exact hMore s w' cnt' (has_true_of_atKey hat) hwf hlk hrg hlt hgr hen
theorem wpList_next_dirty (w : World) (hg : o.guard = none) (it : Operand) (hop : o.op = Op.next it false) (F : AF) (hF : F.Ok) (m r n : Nat) (left : Lit → Bool) (cnt : Nat) (hit : a.eval it = .pointer (some ⟨r, 0, none⟩)) (h : w.ranges Tryz.prog 3 (unitElem (H := Unit)) m r n (dirtyD F) left cnt)
    (hDone : (∀ kl, left kl = false) → wpList Tryz.prog ops Q rest (a.put o.dst (.tuple #[.bool false])) w)
    (hMore : ∀ (s : Nat) (w' : World) (cnt' : Nat), F.dirty s = true → s < 16384 → left (.int .i64 (s : Int)) = true → w'.ranges Tryz.prog 3 (unitElem (H := Unit)) m r n (dirtyD F) (fun z => left z && !z.sameKey (.int .i64 (s : Int))) cnt' → cnt' < cnt →
      w.grownBy w' (some r) → (Instr.entry (.pointer (some ⟨r, 0, none⟩))).run Tryz.prog w' = .ok (.tuple #[.int .i64 (s : Int), .agg #[]]) w' → wpList Tryz.prog ops Q rest (a.put o.dst (.tuple #[.bool true, .int .i64 (s : Int), .agg #[]])) w') :
    wpList Tryz.prog ops Q (o :: rest) a w := by
  refine wpList_next_set w hg it hop _ m r n left cnt hit h hDone ?_
  intro s w' cnt' hh hwf hlk hrg hlt hgr hen
  rw [dirty_has hF, Bool.and_eq_true, decide_eq_true_eq] at hh
  obtain ⟨s', rfl⟩ : ∃ s' : Nat, s = (s' : Int) := ⟨s.toNat, by omega⟩
  have hd : F.dirty s' = true := by simpa using hh.2
  exact hMore s' w' cnt' hd (AF.dirty_lt hF s' hd) hlk hrg hlt hgr hen
end
/-! ### Used -/
def sumNot (fs : FList) (left : Lit → Bool) : Nat := ((fs.filter (fun p => !left (.string p.1))).map (fun p => p.2.seen.length)).sum
theorem sumNot_cons (p : Key × AF) (r : FList) (left : Lit → Bool) : sumNot (p :: r) left = (if left (.string p.1) = true then 0 else p.2.seen.length) + sumNot r left := by
  unfold sumNot
  rw [List.filter_cons]
  cases left (.string p.1) <;> simp
theorem sumNot_none (fs : FList) (con : Key → FC) : sumNot fs (Maps.has (fsD con fs)) = 0 := by
  unfold sumNot
  rw [List.filter_eq_nil_iff.2]
  · rfl
  · intro p hp
    have h : fget fs p.1 ≠ none := fun e => fget_none_iff.1 e p hp rfl
    rw [fsD_has]
    cases hq : fget fs p.1 with
    | none => exact absurd hq h
    | some F => simp
theorem sumNot_all (fs : FList) (left : Lit → Bool) (h : ∀ kl, left kl = false) : sumNot fs left = fused fs := by
  unfold sumNot fused
  rw [List.filter_eq_self.2 (fun p _ => by rw [h]; rfl)]
theorem sumNot_congr {left left' : Lit → Bool} : ∀ {fs : FList}, (∀ p ∈ fs, left (.string p.1) = left' (.string p.1)) → sumNot fs left = sumNot fs left'
  | [], _ => rfl
  | p :: r, h => by
    rw [sumNot_cons, sumNot_cons, h p (by simp), sumNot_congr (fun q hq => h q (by simp [hq]))]
theorem sumNot_step {k : Key} {F : AF} {left : Lit → Bool} (hl : left (.string k) = true) : ∀ {fs : FList}, fs.Pairwise (fun p q => p.1 ≠ q.1) → fget fs k = some F → sumNot fs (fun z => left z && !z.sameKey (.string k)) = sumNot fs left + F.seen.length
  | [], _, h => by simp [fget] at h
  | p :: r, hp, h => by
    obtain ⟨h1, h2⟩ := List.pairwise_cons.1 hp
    rw [fget_cons] at h
    rw [sumNot_cons, sumNot_cons]
    by_cases e : p.1 = k
    · rw [if_pos e] at h
      have hF : p.2 = F := by simpa using h
      have c := sumNot_congr (fs := r) (left := fun z => left z && !z.sameKey (.string k)) (left' := left) (fun q hq => by
        have : (q.1 == k) = false := beq_eq_false_iff_ne.2 (fun x => h1 q hq (e.trans x.symm))
        simp [Lit.sameKey, this])
      rw [c, e, hl, hF]
      simp [Lit.sameKey]; omega
    · rw [if_neg e] at h
      have : (p.1 == k) = false := beq_eq_false_iff_ne.2 e
      rw [sumNot_step hl h2 h]
      simp only [Lit.sameKey, this, Bool.not_false, Bool.and_true]
      omega
theorem sumNot_le (fs : FList) (left : Lit → Bool) : sumNot fs left ≤ fused fs := by
  induction fs with
  | nil => simp [sumNot, fused]
  | cons p r ih =>
    rw [sumNot_cons, fused_cons]
    split <;> omega
set_option maxHeartbeats 400000 in
theorem used_any (p m : Nat) (con : Key → FC) (A : AD) (w : World) (h : DiskAt w p m con A) :
    Calls Tryz.prog 80 #[.pointer (some ⟨p, 0, none⟩)] w fun e w' => e = .returned (.int .i64 (fused A.fs : Int)) ∧ Below w.heap.size w w' := by
  have HH := hide h
  have c1 := h.c1
  have HO := hide h.files
  have HU : Hid ((fused A.fs : Int) ≤ 16777216) := by
    have h1 := h.ok.space
    have h2 := h.ok.c1
    show _ ≤ _
    omega
  clear h
  go_enter Tryz.func80, Tryz.ntmps80
  go_wp2_with (first | (at_range; refine wpList_range_files _ rfl _ rfl con A.fs m (by rfl) HO.out ?_; intro w0 hrg0 hb0 hlt0) | go_in)
  go_frame
  have hm := HO.out.lt
  clear c1
  go_loopw [3] (fun v wr => ∃ left cnt, wr.ranges Tryz.prog 9 ptrElem m w.heap.size 16 (fsD con A.fs) left cnt ∧ v = .int .i64 (sumNot A.fs left : Int) ∧ Below w.heap.size w wr ∧ w.heap.size < wr.heap.size) (fun _ wr => wr.rangeLeft m w.heap.size)
  case atStart => exact ⟨_, _, hrg0, by rw [sumNot_none]; rfl, hb0, hlt0⟩
  case round =>
    clear hrg0 hb0 hlt0
    obtain ⟨left, cnt, hrg, rfl, hb, hlt⟩ := hrel
    have hle := sumNot_le A.fs left
    have HB := hide hb
    have HR := hide hrg
    clear hb hrg
    go_wp2_with (first | (at_next; refine wpList_next_files _ rfl _ rfl con A.fs m w.heap.size left cnt (by rfl) HR.out ?_ ?_) | go_in)
    · intro hl0
      have e := sumNot_all A.fs left hl0
      have HE := hide e
      clear e hle
      go_wp2
      go_ret
      exact ⟨by rw [HE.out]; rfl, HB.out⟩
    · intro s F w2 cnt2 hF hs hlk hrg2 hlt2 hg2 hen
      have hb2 := HB.out.grown hg2 (Nat.le_of_lt hlt) (fun j hj => by cases hj; exact Nat.le_refl _)
      have hD : DiskAt w2 p m con A := HH.out.same (fun b hb' => hb2.block b (HH.out.lt b hb'))
      have hf := hD.file _ F hF
      have c0 := hf.c0
      obtain ⟨ad, cp, hv⟩ := hf.seen.shape
      rw [hv] at c0
      have hst := sumNot_step hlk (apart_of HH.out.ok.sorted) hF
      have hle2 := sumNot_le A.fs (fun z => left z && !z.sameKey (.string s.data.toList))
      rw [hst] at hle2
      have hbd : (sumNot A.fs left : Int) + (F.seen.length : Int) ≤ 16777216 := by have := HU.out; omega
      have HS := hide hst
      have H2 := hide hrg2
      have HG := hide hg2
      have HL := hide hlt2
      have HB2 := hide hb2
      clear hst hle2 hD hf hrg2 hg2 hlt2 hF hv hle hlk hb2
      go_wp2
      go_roundw
      case rel => exact ⟨_, cnt2, H2.out, by rw [HS.out]; go_num, HB2.out, Nat.lt_of_lt_of_le hlt HG.out.size⟩
      case measure => rw [H2.out.left_eq, HR.out.left_eq]; exact HL.out
end Go.Proofs.YtlkimfmilccanaaGreat
