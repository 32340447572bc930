/-
  whole: nothing is lost, and the open adds stand in order (printed by gen_whole.py).
-/
import Derived.Test.YtbeoojnofblnjaaGSame
namespace Go.Proofs.Ytbeoojnofblnjaa
open Go.RowKit S Go.Shelf Go.Sort
set_option linter.unusedVariables false
set_option linter.unusedSimpArgs false
theorem zero35 : (#[.bool false, .int .i64 0, .int .i64 0, .int .u8 0, .int .u8 0, .int .u8 0, .int .u8 0, .int .u8 0, .int .u8 0, .int .u8 0, .int .u8 0, .int .u8 0, .int .u8 0, .int .u8 0, .int .u8 0, .int .u8 0, .int .u8 0, .int .u8 0, .int .u8 0, .int .u8 0, .int .u8 0, .int .u8 0, .int .u8 0, .int .u8 0, .int .u8 0, .int .u8 0, .int .u8 0, .int .u8 0, .int .u8 0, .int .u8 0, .int .u8 0, .int .u8 0, .int .u8 0, .int .u8 0, .int .u8 0] : Array Value) = tabv Pen.zv 35 := rfl
theorem newP (w5 : World) (s : Pen) : ∃ w6 w7, w5.alloc (.cells #[.bool false, .int .i64 0, .int .i64 0, .int .u8 0, .int .u8 0, .int .u8 0, .int .u8 0, .int .u8 0, .int .u8 0, .int .u8 0, .int .u8 0, .int .u8 0, .int .u8 0, .int .u8 0, .int .u8 0, .int .u8 0, .int .u8 0, .int .u8 0, .int .u8 0, .int .u8 0, .int .u8 0, .int .u8 0, .int .u8 0, .int .u8 0, .int .u8 0, .int .u8 0, .int .u8 0, .int .u8 0, .int .u8 0, .int .u8 0, .int .u8 0, .int .u8 0, .int .u8 0, .int .u8 0, .int .u8 0] 55) = w6 ∧ Has w6 w5.heap.size 55 Pen.zv 35 ∧ w6.setRow w5.heap.size (tabv s.v 35) = w7 ∧ Has w7 w5.heap.size 55 s.v 35 ∧ Below w5.heap.size w5 w7 := by
  have q1 : Has (w5.alloc (.cells (tabv Pen.zv 35) 55)) w5.heap.size 55 Pen.zv 35 := Has.new w5 55 Pen.zv 35 _ rfl
  exact ⟨_, _, by rw [zero35], q1, rfl, q1.row _ s.v rfl, below_setRow ((Below.refl w5.heap.size w5).alloc (Nat.le_refl _) _) (Nat.le_refl _) _⟩
theorem onePv (s : Pen) (i : Nat) : (s.v i).oneCell' = true := by unfold Pen.v; repeat' split
                                                                  all_goals rfl
section
variable {ops : Array Oper} {rest : List Oper} {o : Oper} {a : Act} {w : World} {Q : Exit → Act → World → Prop}
theorem wpList_storeP (hgd : o.guard = none) (x y : Operand) (ho : o.op = .store 55 x y) (hd : o.dst = none) (g : Nat) (s : Pen) (hx : a.eval x = .pointer (some ⟨g, 0, none⟩)) (hy : a.eval y = .agg (tabv s.v 35)) (f : Nat → Value) (hg : Has w g 55 f 35)
    (hk : wpList Try.prog ops Q rest a (w.setRow g (tabv s.v 35))) : wpList Try.prog ops Q (o :: rest) a w :=
  wpList_store_part hgd 55 x y ho hd g 0 s.v 35 hx hy 55 f 35 hg (by omega) infoP (fun i _ => onePv s i) s.v (fun i hi => by unfold splice; rw [if_pos (by omega), Nat.sub_zero]) hk
end
def sumP : List Pen → Int
  | [] => 0
  | p :: l => p.amt + sumP l
theorem sumP_append (a b : List Pen) : sumP (a ++ b) = sumP a + sumP b := by
  induction a with
  | nil => simp [sumP]
  | cons x a ih => simp only [List.cons_append, sumP, ih]; omega
theorem sumP_next {l : List Pen} {j : Nat} {x : Pen} (h : l[j]? = some x) : sumP (l.take (j + 1)) = sumP (l.take j) + x.amt := by
  have e : l.take (j + 1) = l.take j ++ [x] := by rw [List.take_add_one, h]; rfl
  rw [e, sumP_append]; simp [sumP]
theorem sumP_pos : ∀ {l : List Pen}, (∀ p ∈ l, 1 ≤ p.amt) → 0 ≤ sumP l
  | [], _ => by simp [sumP]
  | x :: l, h => by
    have := h x (by simp)
    have := sumP_pos (l := l) (fun p hp => h p (by simp [hp]))
    simp only [sumP]; omega
theorem sumP_split (l : List Pen) (j : Nat) : sumP l = sumP (l.take j) + sumP (l.drop j) := by rw [← sumP_append, List.take_append_drop]
/-- An open add may stand right behind another. -/
def okN (p q : Pen) : Prop := (q.ours = true → p.ours = true) ∧ (q.ours = p.ours → p.id ≤ q.id)
def Chain (l : List Pen) : Prop := ∀ i p q, l[i]? = some p → l[i + 1]? = some q → okN p q
set_option maxRecDepth 100000 in
set_option maxHeartbeats 4000000 in
theorem whole_any (x y bs : Int) (l : List Pen) (v : Value) (B : Nat) (w : World) (o1 : OwnP B w v l) (hx : 0 ≤ x) (hy : 0 ≤ y) (hsum : x + y + sumP l = bs) (hbs : bs ≤ 2305843009213693952) (hch : Chain l) (ham : ∀ p ∈ l, 1 ≤ p.amt) : Calls Try.prog 16 #[.agg (tabv (ledv x y v) 3), .int .i64 bs] w fun e w' => e = .returned (.bool true) ∧ Below w.heap.size w w' := by
  obtain ⟨ad1, c1, rfl, h1, _, hc1, hm1⟩ := o1.pens
  obtain ⟨n, hn⟩ : ∃ n, l.length = n := ⟨_, rfl⟩
  rw [hn] at hc1 ⊢
  have hni : (n : Int) ≤ 9223372036854775807 := by unfold maxLen at hm1; omega
  have hsp := sumP_pos ham
  obtain ⟨V2, hV1⟩ : ∃ z, w.alloc (.cells (tabv (ledv x y (.slice ad1 n c1)) 3) 46) = z := ⟨_, rfl⟩
  have q1 : Has V2 w.heap.size 46 (ledv x y (.slice ad1 n c1)) 3 := by rw [← hV1]; exact Has.new w 46 _ 3 _ rfl
  have gb : Below w.heap.size w V2 := by rw [← hV1]; exact (Below.refl _ _).alloc (Nat.le_refl _) _
  clear o1 hc1 hm1
  obtain ⟨g1, hg1⟩ : ∃ g, w.heap.size = g := ⟨_, rfl⟩
  rw [hg1] at q1
  have a0 : V2.cell? ⟨g1, 0, none⟩ = some (.int .i64 x) := q1.cell 0 (by omega)
  have a1 : V2.cell? ⟨g1, 1, none⟩ = some (.int .i64 y) := q1.cell 1 (by omega)
  have a2 : V2.cell? ⟨g1, 2, none⟩ = some (.slice ad1 n c1) := q1.cell 2 (by omega)
  have Q0 := hide q1
  have h1 := h1.below gb
  have hd0 : decide (x < 0) = false := decide_eq_false (by omega)
  have hd1 : decide (y < 0) = false := decide_eq_false (by omega)
  have hd3 : decide (bs < x) = false := decide_eq_false (by omega)
  have hd4 : decide (bs - x < y) = false := decide_eq_false (by omega)
  have z1 : IntKind.i64.wrap (bs - x) = bs - x := by rw [IntKind.wrap_i64]; omega
  have z2 : IntKind.i64.wrap (bs - x - y) = bs - x - y := by rw [IntKind.wrap_i64]; omega
  have HN := hide hn
  have HX := hide hx
  have HY := hide hy
  have HS0 := hide hsum
  have HB := hide hbs
  have HCH := hide hch
  have HAM := hide ham
  clear hn q1 hx hy hsum hbs hch ham hsp
  go_enter Try.func16, Try.ntmps16
  go_wp2
  go_loopw [6, 5] (fun i lf wr => ∃ j : Nat, j ≤ n ∧ i = .int .i64 (j : Int) ∧ lf = .int .i64 (bs - x - y - sumP (l.take j)) ∧ Below V2.heap.size V2 wr) (fun i _ _ => n - (intOf i).toNat)
  case atStart => exact ⟨0, Nat.zero_le _, rfl, by simp [sumP], Below.refl _ _⟩
  case round =>
    obtain ⟨j, hj, rfl, rfl, hwk⟩ := hrel
    have h1' := h1.below hwk
    have A2 := (hwk.cell (p := ⟨g1, 2, none⟩) Q0.out.lt).trans a2
    clear a0 a1 a2
    obtain ⟨lf, hlf⟩ : ∃ z, bs - x - y - sumP (l.take j) = z := ⟨_, rfl⟩
    rw [hlf]
    by_cases hlt : j < n
    · have hd : decide ((j : Int) < (n : Int)) = true := decide_eq_true (by omega)
      have hd2 : decide (j < n) = true := decide_eq_true hlt
      have hk0 : (0 : Int) ≤ (j : Int) := by omega
      have hk1 : (j : Int) < (n : Int) := by omega
      obtain ⟨s, hs⟩ : ∃ s, l[j]? = some s := ⟨_, List.getElem?_eq_getElem (by rw [HN.out]; exact hlt)⟩
      obtain ⟨b, o, rfl, hb1, hA⟩ := h1'.get j s hs
      have NX := hide (sumP_next hs)
      have hmem : s ∈ l := List.mem_of_getElem? hs
      have hamt := HAM.out s hmem
      have hle : s.amt ≤ lf := by
        have e1 := sumP_split l (j + 1)
        have e2 := sumP_pos (l := l.drop (j + 1)) (fun p hp => HAM.out p (List.mem_of_mem_drop hp))
        have e3 := NX.out
        have e4 := HS0.out
        omega
      have hl4 : lf ≤ 2305843009213693952 := by
        have e2 := sumP_pos (l := l.take j) (fun p hp => HAM.out p (List.mem_of_mem_take hp))
        have e4 := HB.out
        have e5 := HX.out
        have e6 := HY.out
        omega
      have EL := hide hlf
      have u1 : decide (s.amt < 1) = false := decide_eq_false (by omega)
      have u2 : decide (lf < s.amt) = false := decide_eq_false (by omega)
      have z3 : IntKind.i64.wrap (lf - s.amt) = lf - s.amt := by rw [IntKind.wrap_i64]; omega
      obtain ⟨w6, w7, hW6, q1, hW7, r1, rb⟩ := newP wr s
      have Q1 := hide q1
      have R7 := hide r1
      have A7 := (rb.cell (p := ⟨g1, 2, none⟩) (Nat.lt_of_lt_of_le Q0.out.lt hwk.size)).trans A2
      have c0 : w7.cell? ⟨wr.heap.size, 0, none⟩ = some (.bool s.ours) := r1.cell 0 (by omega)
      have c1 : w7.cell? ⟨wr.heap.size, 1, none⟩ = some (.int .i64 s.id) := r1.cell 1 (by omega)
      have c2 : w7.cell? ⟨wr.heap.size, 2, none⟩ = some (.int .i64 s.amt) := r1.cell 2 (by omega)
      have HA := hide hA
      have HSj := hide hs
      generalize hgP : wr.heap.size = gP at Q1 R7 c0 c1 c2 hW7
      clear hs hA q1 r1 hmem hlf hle hl4 hamt
      by_cases hj0 : j = 0
      · have uj : decide ((0 : Int) < (j : Int)) = false := decide_eq_false (by omega)
        have uj2 : decide (0 < j) = false := decide_eq_false (by omega)
        have HJ := hide hj0
        clear hj0
        go_wp2_with (first | refine wpW_load_at 55 _ rfl b (o + j * 35) (by rfl) (by rfl) _ 35 _ HA.out Try.underlying55 rfl infoP ?_ | refine wpList_storeP rfl _ _ rfl rfl gP s rfl rfl _ Q1.out ?_)
        go_quiet (fail)
        go_wp2
        go_roundw
        case rel => exact ⟨j + 1, by omega, by go_num, by rw [NX.out]; have e := EL.out; exact int_eq (by omega), belowD (hwk.trans (rb.mono hwk.size)) _⟩
        case measure => simp [intOf]; omega
      · have uj : decide ((0 : Int) < (j : Int)) = true := decide_eq_true (by omega)
        have uj2 : decide (0 < j) = true := decide_eq_true (by omega)
        obtain ⟨k, hk⟩ : ∃ k, j = k + 1 := ⟨j - 1, by omega⟩
        obtain ⟨t, ht⟩ : ∃ t, l[k]? = some t := ⟨_, List.getElem?_eq_getElem (by rw [HN.out]; omega)⟩
        have hok := HCH.out k t s ht (by rw [← hk]; exact HSj.out)
        obtain ⟨b', o', e', hb', hA'⟩ := (h1'.below rb).get k t ht
        cases e'
        have p0 : w7.cell? ⟨b, o + k * 35 + 0, none⟩ = some (.bool t.ours) := hA' 0 (by omega)
        have p1 : w7.cell? ⟨b, o + k * 35 + 1, none⟩ = some (.int .i64 t.id) := hA' 1 (by omega)
        rw [Nat.add_zero] at p0
        have z4 : IntKind.i64.wrap ((j : Int) - 1) = (k : Int) := by rw [IntKind.wrap_i64]; omega
        have z5 : (j : Int) - 1 = (k : Int) := by omega
        have y0 : (0 : Int) ≤ (k : Int) := by omega
        have y1 : (k : Int) < (n : Int) := by omega
        have HK := hide hk
        clear hA' ht hk hj0
        cases so : s.ours with
        | true =>
          have tou : t.ours = true := hok.1 so
          have u3 : decide (s.id < t.id) = false := decide_eq_false (by have := hok.2 (by rw [so, tou]); omega)
          rw [so] at c0
          rw [tou] at p0
          go_wp2_with (first | refine wpW_load_at 55 _ rfl b (o + j * 35) (by rfl) (by rfl) _ 35 _ HA.out Try.underlying55 rfl infoP ?_ | refine wpList_storeP rfl _ _ rfl rfl gP s rfl rfl _ Q1.out ?_)
          go_quiet (fail)
          go_wp2
          go_roundw
          case rel => exact ⟨j + 1, by omega, by go_num, by rw [NX.out]; have e := EL.out; exact int_eq (by omega), belowD (hwk.trans (rb.mono hwk.size)) _⟩
          case measure => simp [intOf]; omega
        | false =>
          rw [so] at c0
          cases tou : t.ours with
          | true =>
            rw [tou] at p0
            go_wp2_with (first | refine wpW_load_at 55 _ rfl b (o + j * 35) (by rfl) (by rfl) _ 35 _ HA.out Try.underlying55 rfl infoP ?_ | refine wpList_storeP rfl _ _ rfl rfl gP s rfl rfl _ Q1.out ?_)
            go_quiet (fail)
            go_wp2
            go_roundw
            case rel => exact ⟨j + 1, by omega, by go_num, by rw [NX.out]; have e := EL.out; exact int_eq (by omega), belowD (hwk.trans (rb.mono hwk.size)) _⟩
            case measure => simp [intOf]; omega
          | false =>
            have u3 : decide (s.id < t.id) = false := decide_eq_false (by have := hok.2 (by rw [so, tou]); omega)
            rw [tou] at p0
            go_wp2_with (first | refine wpW_load_at 55 _ rfl b (o + j * 35) (by rfl) (by rfl) _ 35 _ HA.out Try.underlying55 rfl infoP ?_ | refine wpList_storeP rfl _ _ rfl rfl gP s rfl rfl _ Q1.out ?_)
            go_quiet (fail)
            go_wp2
            go_roundw
            case rel => exact ⟨j + 1, by omega, by go_num, by rw [NX.out]; have e := EL.out; exact int_eq (by omega), belowD (hwk.trans (rb.mono hwk.size)) _⟩
            case measure => simp [intOf]; omega
    · have hjn : n = j := by omega
      subst hjn
      have hd : decide ((n : Int) < (n : Int)) = false := decide_eq_false (by omega)
      have hd2 : decide (n < n) = false := decide_eq_false (by omega)
      have hz : lf = 0 := by
        rw [← hlf, show l.take n = l by rw [← HN.out, List.take_length]]
        have := HS0.out
        omega
      subst hz
      go_wp2
      go_ret
      exact ⟨by simp, gb.trans (hwk.mono gb.size)⟩
end Go.Proofs.Ytbeoojnofblnjaa
