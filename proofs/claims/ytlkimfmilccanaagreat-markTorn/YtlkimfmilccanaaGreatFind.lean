/-
  find, Size, Off, Arm, Fall, New.
-/
import Derived.Test.YtlkimfmilccanaaGreatPower
namespace Go.Proofs.YtlkimfmilccanaaGreat
open Go.RowKit Go.Maps Go.WideMaps
theorem zeroPF (w : World) : (zeroValue 94).run Tryz.prog w = .ok (.pointer none) w := by kernel_rfl
theorem ptrElem_nil : ptrElem (.pointer none) = some (.nil, []) := rfl
theorem ptrElem_nil_inv {v : Value} {ps : List MemPlace} (h : ptrElem v = some (.nil, ps)) : v = .pointer none := by
  unfold ptrElem at h
  split at h
  · split at h <;> cases h
  · rfl
  · cases h
section
variable {w : World} {p m : Nat} {con : Key → FC} {A : AD}
theorem look_some (h : DiskAt w p m con A) (s : ByteArray) (hs : s.size ≤ maxLen) {F : AF} (hk : fget A.fs s.data.toList = some F) :
    (Instr.lookup 82 (.map (some m)) (.string s) true).run Tryz.prog w = .ok (.tuple #[.pointer (some ⟨(con s.data.toList).g, 0, none⟩), .bool true]) w ∧
    (Instr.lookup 82 (.map (some m)) (.string s) false).run Tryz.prog w = .ok (.pointer (some ⟨(con s.data.toList).g, 0, none⟩)) w := by
  obtain ⟨v, ps, hr, hv⟩ := h.files.look_ok law9 Tryz.underlying82 (zeroPF w) ptrElem_nil (keyOf_string_mk Tryz.underlying9 hs)
  obtain ⟨v', ps', hr', hv'⟩ := h.files.lookup law9 Tryz.underlying82 (zeroPF w) ptrElem_nil (keyOf_string_mk Tryz.underlying9 hs)
  rw [fsD_at hk] at hv hv'
  rw [fsD_has, hk] at hr
  rw [hr, hr', ptrElem_inv hv, ptrElem_inv hv']
  exact ⟨rfl, rfl⟩
theorem look_none (h : DiskAt w p m con A) (s : ByteArray) (hs : s.size ≤ maxLen) (hk : fget A.fs s.data.toList = none) :
    (Instr.lookup 82 (.map (some m)) (.string s) true).run Tryz.prog w = .ok (.tuple #[.pointer none, .bool false]) w ∧
    (Instr.lookup 82 (.map (some m)) (.string s) false).run Tryz.prog w = .ok (.pointer none) w := by
  obtain ⟨v, ps, hr, hv⟩ := h.files.look_ok law9 Tryz.underlying82 (zeroPF w) ptrElem_nil (keyOf_string_mk Tryz.underlying9 hs)
  obtain ⟨v', ps', hr', hv'⟩ := h.files.lookup law9 Tryz.underlying82 (zeroPF w) ptrElem_nil (keyOf_string_mk Tryz.underlying9 hs)
  rw [fsD_none hk] at hv hv'
  rw [fsD_has, hk] at hr
  rw [hr, hr', ptrElem_nil_inv hv, ptrElem_nil_inv hv']
  exact ⟨rfl, rfl⟩
end
set_option maxHeartbeats 400000 in
theorem find_any (p m : Nat) (con : Key → FC) (A : AD) (w : World) (h : DiskAt w p m con A) (s : ByteArray) (hs : s.size ≤ maxLen) :
    Calls Tryz.prog 41 #[.pointer (some ⟨p, 0, none⟩), .string s] w fun e w' => w' = w ∧
      ((A.pow.off = true ∧ e = .returned (.tuple #[.pointer none, .int .i64 9])) ∨ (A.pow.off = false ∧ fget A.fs s.data.toList = none ∧ e = .returned (.tuple #[.pointer none, .int .i64 5])) ∨
        ∃ F, A.pow.off = false ∧ fget A.fs s.data.toList = some F ∧ e = .returned (.tuple #[.pointer (some ⟨(con s.data.toList).g, 0, none⟩), .int .i64 0])) := by
  have HH := hide h
  have c1 := h.c1
  have c2 := h.c2
  clear h
  cases ho : A.pow.off with
  | true =>
    rw [ho] at c2
    go_enter Tryz.func41, Tryz.ntmps41
    go_wp2
    go_ret2
    exact ⟨rfl, .inl ⟨by first | rfl | trivial, rfl⟩⟩
  | false =>
    rw [ho] at c2
    cases hk : fget A.fs s.data.toList with
    | none =>
      have hl := (look_none HH.out s hs hk).1
      go_enter Tryz.func41, Tryz.ntmps41
      go_wp2
      go_ret2
      exact ⟨rfl, .inr (.inl ⟨by first | rfl | trivial, by first | rfl | trivial, rfl⟩)⟩
    | some F =>
      have hl := (look_some HH.out s hs hk).1
      go_enter Tryz.func41, Tryz.ntmps41
      go_wp2
      go_ret2
      exact ⟨rfl, .inr (.inr ⟨F, by first | rfl | trivial, by first | rfl | trivial, rfl⟩)⟩
theorem size_of {A : AD} {k : Key} {F : AF} (ho : A.pow.off = false) (hk : fget A.fs k = some F) : A.size k = ((F.seen.length : Int), 0) := by unfold AD.size; rw [ho, hk]; rfl
set_option maxHeartbeats 400000 in
theorem size_any (p m : Nat) (con : Key → FC) (A : AD) (w : World) (h : DiskAt w p m con A) (s : ByteArray) (hs : s.size ≤ maxLen) :
    Calls Tryz.prog 32 #[.pointer (some ⟨p, 0, none⟩), .string s] w fun e w' => w' = w ∧ e = .returned (.tuple #[.int .i64 (A.size s.data.toList).1, .int .i64 (A.size s.data.toList).2]) := by
  have HH := hide h
  clear h
  go_enter Tryz.func32, Tryz.ntmps32
  go_wp2_with fail
  refine (find_any p m con A _ HH.out s hs).mono ?_
  rintro e w1 ⟨rfl, ⟨ho, rfl⟩ | ⟨ho, hk, rfl⟩ | ⟨F, ho, hk, rfl⟩⟩
  · have e : A.size s.data.toList = (0, 9) := by unfold AD.size; rw [ho]; rfl
    have HE := hide e
    clear e
    go_wp2
    go_ret2
    exact ⟨rfl, by rw [HE.out]; rfl⟩
  · have e : A.size s.data.toList = (0, 5) := by unfold AD.size; rw [ho, hk]; rfl
    have HE := hide e
    clear e
    go_wp2
    go_ret2
    exact ⟨rfl, by rw [HE.out]; rfl⟩
  · have HE := hide (size_of ho hk)
    have hf := HH.out.file _ F hk
    have c0 := hf.c0
    obtain ⟨ad, cp, hv⟩ := hf.seen.shape
    rw [hv] at c0
    clear hf hk
    go_wp2
    go_ret2
    exact ⟨rfl, by rw [HE.out]; rfl⟩
theorem off_any (p m : Nat) (con : Key → FC) (A : AD) (w : World) (h : DiskAt w p m con A) : Calls Tryz.prog 28 #[.pointer (some ⟨p, 0, none⟩)] w fun e w' => w' = w ∧ e = .returned (.bool A.pow.off) := by
  have c2 := h.c2
  clear h
  go_enter Tryz.func28, Tryz.ntmps28
  go_wp2
  go_ret
  exact ⟨rfl, rfl⟩
set_option maxHeartbeats 400000 in
theorem fall_any (p m : Nat) (con : Key → FC) (A : AD) (w : World) (h : DiskAt w p m con A) (n : Int) (hn : -9223372036854775808 ≤ n ∧ n < 9223372036854775808) :
    Calls Tryz.prog 24 #[.pointer (some ⟨p, 0, none⟩), .int .i64 n] w fun e w' => e = .returned (.tuple #[]) ∧ DiskAt w' p m con (A.fallen n) ∧ Turn (fun b => b = p) w w' := by
  have HH := hide h
  have c6 := h.c6
  have f6 := h.fz 6
  have HT : Hid (∀ x : Int, 0 ≤ x → x < 9223372036854775808 → DiskAt (w.setCell ⟨p, 6, none⟩ (.int .i64 x)) p m con { A with pow := { A.pow with fall := x } } ∧ Turn (fun b => b = p) w (w.setCell ⟨p, 6, none⟩ (.int .i64 x))) := fun x h0 h1 => by
    have t := tset (Turn.refl (fun b => b = p) w) 6 (.int .i64 x)
    exact ⟨h.setPow ⟨h.ok.pow.a0, h.ok.pow.a1, h0, h1, h.ok.pow.w0, h.ok.pow.w1⟩ t (DCells.fall h.cells x), t⟩
  clear h
  by_cases h0 : n < 0
  · have e : A.fallen n = { A with pow := { A.pow with fall := 0 } } := by unfold AD.fallen; rw [Int.max_eq_right (by omega)]
    have hm : max n 0 = 0 := Int.max_eq_right (by omega)
    have HE := hide e
    clear e
    go_enter Tryz.func24, Tryz.ntmps24
    go_wp2
    go_end0
    rw [HE.out]
    exact ⟨rfl, HT.out 0 (by omega) (by omega)⟩
  · have e : A.fallen n = { A with pow := { A.pow with fall := n } } := by unfold AD.fallen; rw [Int.max_eq_left (by omega)]
    have hm : max n 0 = n := Int.max_eq_left (by omega)
    have HE := hide e
    clear e
    go_enter Tryz.func24, Tryz.ntmps24
    go_wp2
    go_end0
    rw [HE.out]
    exact ⟨rfl, HT.out n (by omega) (by omega)⟩
set_option maxHeartbeats 400000 in
theorem arm_any (p m : Nat) (con : Key → FC) (A : AD) (w : World) (h : DiskAt w p m con A) (n x : Int) (hn : -9223372036854775808 ≤ n ∧ n < 9223372036854775808) :
    Calls Tryz.prog 23 #[.pointer (some ⟨p, 0, none⟩), .int .i64 n, .int .i64 x] w fun e w' => e = .returned (.tuple #[]) ∧ DiskAt w' p m con (A.armed n x) ∧ Turn (fun b => b = p) w w' := by
  have HH := hide h
  have c4 := h.c4
  have f4 := h.fz 4
  have c5 := h.c5
  have f5 := h.fz 5
  have HT : Hid (∀ y z : Int, 0 ≤ y → y < 9223372036854775808 → 0 ≤ z → z ≤ 2 → DiskAt ((w.setCell ⟨p, 4, none⟩ (.int .i64 y)).setCell ⟨p, 5, none⟩ (.int .i64 z)) p m con { A with pow := { A.pow with arm := y, what := z } } ∧ Turn (fun b => b = p) w ((w.setCell ⟨p, 4, none⟩ (.int .i64 y)).setCell ⟨p, 5, none⟩ (.int .i64 z))) := fun y z h0 h1 h2 h3 => by
    have t := tset (tset (Turn.refl (fun b => b = p) w) 4 (.int .i64 y)) 5 (.int .i64 z)
    exact ⟨h.setPow ⟨h0, h1, h.ok.pow.f0, h.ok.pow.f1, h2, h3⟩ t (DCells.what (DCells.arm h.cells y) z), t⟩
  clear h
  by_cases h1 : n < 1
  · have e : A.armed n x = { A with pow := { A.pow with arm := 0, what := 0 } } := by unfold AD.armed; rw [if_pos (.inl h1)]
    have d1 : decide (n < 1) = true := decide_eq_true h1
    have HE := hide e
    clear e
    go_enter Tryz.func23, Tryz.ntmps23
    go_wp2
    go_end0
    rw [HE.out]
    exact ⟨rfl, HT.out 0 0 (by omega) (by omega) (by omega) (by omega)⟩
  · have d1 : decide (n < 1) = false := decide_eq_false h1
    by_cases h2 : x < 0
    · have e : A.armed n x = { A with pow := { A.pow with arm := 0, what := 0 } } := by unfold AD.armed; rw [if_pos (.inr (.inl h2))]
      have d2 : decide (x < 0) = true := decide_eq_true h2
      have HE := hide e
      clear e
      go_enter Tryz.func23, Tryz.ntmps23
      go_wp2
      go_end0
      rw [HE.out]
      exact ⟨rfl, HT.out 0 0 (by omega) (by omega) (by omega) (by omega)⟩
    · have d2 : decide (x < 0) = false := decide_eq_false h2
      by_cases h3 : 2 < x
      · have e : A.armed n x = { A with pow := { A.pow with arm := 0, what := 0 } } := by unfold AD.armed; rw [if_pos (.inr (.inr h3))]
        have d3 : decide (2 < x) = true := decide_eq_true h3
        have HE := hide e
        clear e
        go_enter Tryz.func23, Tryz.ntmps23
        go_wp2
        go_end0
        rw [HE.out]
        exact ⟨rfl, HT.out 0 0 (by omega) (by omega) (by omega) (by omega)⟩
      · have d3 : decide (2 < x) = false := decide_eq_false h3
        have e : A.armed n x = { A with pow := { A.pow with arm := n, what := x } } := by unfold AD.armed; rw [if_neg (by omega)]
        have HE := hide e
        clear e
        go_enter Tryz.func23, Tryz.ntmps23
        go_wp2
        go_end0
        rw [HE.out]
        exact ⟨rfl, HT.out n x (by omega) (by omega) (by omega) (by omega)⟩
theorem size_alloc (w : World) (o : Obj) : (w.alloc o).heap.size = w.heap.size + 1 := by simp
/-- A disk as New gives it. -/
def AD.fresh (cap : Int) : AD := ⟨cap, [], ⟨false, false, 0, 0, 0⟩⟩
def FC.void : FC := ⟨0, 0, .slice none 0 0, .slice none 0 0⟩
theorem new_disk (w : World) (cap : Int) (h0 : 0 ≤ cap) (h1 : cap ≤ 16777216) : DiskAt ((w.alloc (.map #[] 0)).alloc (.cells #[.int .i64 cap, .map (some w.heap.size), .bool false, .bool false, .int .i64 0, .int .i64 0, .int .i64 0] 86)) (w.heap.size + 1) w.heap.size (fun _ => FC.void) (AD.fresh cap) := by
  refine ⟨⟨h0, h1, List.Pairwise.nil, by simp [AD.fresh], by simp [AD.fresh], by simp [AD.fresh], by simpa [AD.fresh, fused] using h0, ⟨by simp [AD.fresh], by simp [AD.fresh], by simp [AD.fresh], by simp [AD.fresh], by simp [AD.fresh], by simp [AD.fresh]⟩⟩, ?_, ?_, fun k F hk => ?_, fun k F hk => ?_, fun k F k' F' hk => ?_⟩
  · have := heap_alloc_new (w.alloc (.map #[] 0)) (.cells #[.int .i64 cap, .map (some w.heap.size), .bool false, .bool false, .int .i64 0, .int .i64 0, .int .i64 0] 86)
    rw [size_alloc] at this
    exact this
  · exact ((World.ownsMap_made w Tryz.prog 9 ptrElem).mono (by omega)).alloc _
  · simp [AD.fresh, fget] at hk
  · simp [AD.fresh, fget] at hk
  · simp [AD.fresh, fget] at hk
set_option maxHeartbeats 400000 in
theorem new_bad (w : World) (cap : Int) (h : cap < 0 ∨ 16777216 < cap) : Calls Tryz.prog 8 #[.int .i64 cap] w fun e w' => e = .returned (.tuple #[.pointer none, .int .i64 1]) ∧ w' = w := by
  by_cases h1 : cap < 0
  · have d1 : decide (cap < 0) = true := decide_eq_true h1
    clear h
    go_enter Tryz.func8, Tryz.ntmps8
    go_wp2
    go_ret2
    exact ⟨rfl, rfl⟩
  · have d1 : decide (cap < 0) = false := decide_eq_false h1
    have d2 : decide (16777216 < cap) = true := decide_eq_true (h.resolve_left h1)
    clear h
    go_enter Tryz.func8, Tryz.ntmps8
    go_wp2
    go_ret2
    exact ⟨rfl, rfl⟩
set_option maxHeartbeats 400000 in
theorem new_good (w : World) (cap : Int) (h0 : 0 ≤ cap) (h1 : cap ≤ 16777216) : Calls Tryz.prog 8 #[.int .i64 cap] w fun e w' =>
    e = .returned (.tuple #[.pointer (some ⟨w.heap.size + 1, 0, none⟩), .int .i64 0]) ∧ DiskAt w' (w.heap.size + 1) w.heap.size (fun _ => FC.void) (AD.fresh cap) ∧ Below w.heap.size w w' := by
  have hmm := @run_makeMap Tryz.prog
  have d1 : decide (cap < 0) = false := decide_eq_false (by omega)
  have d2 : decide (16777216 < cap) = false := decide_eq_false (by omega)
  have HN := hide (new_disk w cap h0 h1)
  have HB : Hid (Below w.heap.size w ((w.alloc (.map #[] 0)).alloc (.cells #[.int .i64 cap, .map (some w.heap.size), .bool false, .bool false, .int .i64 0, .int .i64 0, .int .i64 0] 86))) := ((Below.refl _ _).alloc (Nat.le_refl _) _).alloc (by simp) _
  go_enter Tryz.func8, Tryz.ntmps8
  go_wp2
  go_ret2
  exact ⟨by simp, HN.out, HB.out⟩
end Go.Proofs.YtlkimfmilccanaaGreat
