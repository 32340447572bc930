/-
  sum (printed by gen_c18.py).
-/
import Derived.Test.YthmbpddpdbkioaaCBack
namespace Go.Proofs.Ythmbpddpdbkioaa
open Go.RowKit S
set_option linter.unusedVariables false
set_option linter.unusedSimpArgs false
def N1 (v : Int) : Nat → Value := fun _ => .int .i64 v
theorem Has.n1 {w : World} {g : Nat} {a : Int} (h : Has w g 2 (N1 a) 1) (b : Int) : Has (w.setCell ⟨g, 0, none⟩ (.int .i64 b)) g 2 (N1 b) 1 :=
  (h.set 0 (.int .i64 b)).congr _ (fun i hi => by unfold upd N1; match i, hi with
                                                   | 0, _ => rfl)
theorem and_low (k : Nat) (hk : k < 4611686018427387904) : bits .and .i64 (k : Int) 2305843009213693951 = ((k % 2305843009213693952 : Nat) : Int) := by
  have e : bits .and .i64 (k : Int) ((2305843009213693951 : Nat) : Int) = IntKind.i64.wrap ((BitVec.ofInt 64 (k : Int) &&& BitVec.ofInt 64 ((2305843009213693951 : Nat) : Int)).toNat : Int) := rfl
  have e2 : (BitVec.ofInt 64 (k : Int) &&& BitVec.ofInt 64 ((2305843009213693951 : Nat) : Int)).toNat = k % 2305843009213693952 := by
    rw [BitVec.toNat_and, BitVec.ofInt_natCast, BitVec.ofInt_natCast, BitVec.toNat_ofNat, BitVec.toNat_ofNat, Nat.mod_eq_of_lt (by omega), Nat.mod_eq_of_lt (by omega)]
    exact Nat.and_two_pow_sub_one_eq_mod k 61
  have h3 : ((2305843009213693951 : Nat) : Int) = 2305843009213693951 := rfl
  rw [← h3, e, e2, IntKind.wrap_i64]
  omega
/-- The sum so far. -/
structure SumS (T : Nat) (pl ph : Nat) (w : World) : Prop where
  lo : Has w pl 2 (N1 ((T % 2305843009213693952 : Nat) : Int)) 1
  hi : Has w ph 2 (N1 ((T / 2305843009213693952 : Nat) : Int)) 1
theorem SumS.below {T pl ph : Nat} {w w' : World} (h : SumS T pl ph w) (hb : Below w.heap.size w w') : SumS T pl ph w' := ⟨h.lo.below hb h.lo.lt, h.hi.below hb h.hi.lt⟩
set_option maxRecDepth 100000 in
set_option maxHeartbeats 4000000 in
theorem add_any (T n : Nat) (hn : n ≤ 1152921504606846976) (hT : T ≤ 1152921504606846976000) (pl ph : Nat) (hne : pl < ph ∨ ph < pl) (w : World) (h : SumS T pl ph w) : Calls Try.prog 19 #[.int .i64 (n : Int), .pointer (some ⟨pl, 0, none⟩), .pointer (some ⟨ph, 0, none⟩)] w fun e w' => e = .returned (.tuple #[]) ∧ SumS (T + n) pl ph w' ∧ Keep (fun i => i = pl ∨ i = ph) w w' := by
  obtain ⟨lo, hlo⟩ : ∃ z, T % 2305843009213693952 = z := ⟨_, rfl⟩
  obtain ⟨hi, hhi⟩ : ∃ z, T / 2305843009213693952 = z := ⟨_, rfl⟩
  obtain ⟨L, hL⟩ : ∃ z, lo + n = z := ⟨_, rfl⟩
  obtain ⟨d, hd⟩ : ∃ z, L / 2305843009213693952 = z := ⟨_, rfl⟩
  obtain ⟨h9, hh9⟩ : ∃ z, hi + d = z := ⟨_, rfl⟩
  obtain ⟨l9, hl9⟩ : ∃ z, L % 2305843009213693952 = z := ⟨_, rfl⟩
  have b1 : bits .and .i64 (n : Int) 2305843009213693951 = (n : Int) := by rw [and_low n (by omega), Nat.mod_eq_of_lt (by omega)]
  have b2 : bits .and .i64 (L : Int) 2305843009213693951 = (l9 : Int) := by rw [and_low L (by omega), hl9]
  have z1 : IntKind.i64.wrap ((lo : Int) + (n : Int)) = (L : Int) := by rw [IntKind.wrap_i64]; omega
  have d0 : (n : Int) / 2305843009213693952 = 0 := by omega
  have d1 : (L : Int) / 2305843009213693952 = (d : Int) := by omega
  have z0 : IntKind.i64.wrap (hi : Int) = (hi : Int) := by rw [IntKind.wrap_i64]; omega
  have z2 : IntKind.i64.wrap ((hi : Int) + (d : Int)) = (h9 : Int) := by rw [IntKind.wrap_i64]; omega
  have e1 : Hid ((T + n) % 2305843009213693952 = l9 ∧ (T + n) / 2305843009213693952 = h9) := by
    show _ ∧ _
    constructor <;> omega
  have r1 := h.lo
  have r2 := h.hi
  rw [hlo] at r1
  rw [hhi] at r2
  have HNE := hide hne
  have R1 := hide r1
  have R2 := hide r2
  have n1 : ¬ pl = ph := by omega
  have n2 : ¬ ph = pl := by omega
  have c1 : w.cell? ⟨pl, 0, none⟩ = some (.int .i64 (lo : Int)) := r1.cell 0 (by omega)
  have c2 : w.cell? ⟨ph, 0, none⟩ = some (.int .i64 (hi : Int)) := r2.cell 0 (by omega)
  have f1 := r1.frozen 0
  have f2 := r2.frozen 0
  clear hlo hhi hL hd hh9 hl9 hn hT h r1 r2 hne
  go_enter Try.func19, Try.ntmps19
  go_wp2
  have s1 := (R1.out.n1 (L : Int)).other ⟨ph, 0, none⟩ (.int .i64 (h9 : Int)) n1
  have s2 := (R2.out.other ⟨pl, 0, none⟩ (.int .i64 (L : Int)) n2).n1 (h9 : Int)
  go_end0
  refine ⟨rfl, ⟨?_, ?_⟩, ?_⟩
  · rw [e1.out.1]; exact s1.n1 (l9 : Int)
  · rw [e1.out.2]; exact s2.other ⟨pl, 0, none⟩ _ n2
  · exact ((keep_set _ _ _ _ (.inl rfl)).trans (keep_set _ _ _ _ (.inr rfl))).trans (keep_set _ _ _ _ (.inl rfl))
theorem hmf (fn : Fn) (first cap : Array Value) (w : World) : (Instr.makeFunc fn first cap).run Try.prog w = .ok (.func fn first cap) w := rfl
def amN (l : List Pen) : Nat := (l.map fun p => p.amt.toNat).sum
theorem amN_next {l : List Pen} {j : Nat} {p : Pen} (h : l[j]? = some p) : amN (l.take (j + 1)) = amN (l.take j) + p.amt.toNat := by
  unfold amN
  rw [take_snoc h, List.map_append, List.sum_append]
  simp
theorem amN_le {l : List Pen} (h : ∀ p ∈ l, p.amt ≤ 1152921504606846976) : amN l ≤ l.length * 1152921504606846976 := by
  induction l with
  | nil => simp [amN]
  | cons p l ih =>
    have h1 := ih (fun q hq => h q (List.mem_cons_of_mem _ hq))
    have h2 := h p List.mem_cons_self
    unfold amN at h1 ⊢
    rw [List.map_cons, List.sum_cons, List.length_cons, Nat.add_mul]
    omega
/-- What sum answers. -/
def SmPost (T : Nat) (w : World) (e : Ending) (w' : World) : Prop := e = .returned (.tuple #[.int .i64 ((T / 2305843009213693952 : Nat) : Int), .int .i64 ((T % 2305843009213693952 : Nat) : Int)]) ∧ Below w.heap.size w w'
/-- sum's variables. -/
structure SV (w : World) (g gl gh : Nat) (x y : Int) (ad : Option Addr) (n cap : Nat) (l : List Pen) (T : Nat) (wr : World) : Prop where
  rL : Has wr g 24 (ledv x y (.slice ad n cap)) 3
  ps : Pens wr ad l
  sm : SumS T gl gh wr
  bel : Below w.heap.size w wr
  sz : w.heap.size ≤ g ∧ g < gh ∧ gh < gl
theorem SV.add {w : World} {g gl gh : Nat} {x y : Int} {ad : Option Addr} {n cap : Nat} {l : List Pen} {T T' : Nat} {wr w' : World} (k : SV w g gl gh x y ad n cap l T wr) (hp : Pens w ad l) (hs : SumS T' gl gh w') (hk : Keep (fun i => i = gl ∨ i = gh) wr w') : SV w g gl gh x y ad n cap l T' w' := by
  have hz := k.sz
  have b : Below w.heap.size wr w' := hk.below (by have := k.rL.lt; omega) (fun i hi e => by omega)
  have b2 := k.bel.trans b
  exact ⟨k.rL.same (hk.block g k.rL.lt (by omega)), hp.below b2, hs, b2, hz⟩
set_option maxRecDepth 100000 in
set_option maxHeartbeats 4000000 in
theorem sum_any (x y : Nat) (ad : Option Addr) (n cap : Nat) (l : List Pen) (hn : l.length = n) (hz : n ≤ 966) (hx : x ≤ 1152921504606846976) (hy : y ≤ 1152921504606846976) (hl : ∀ p ∈ l, 0 ≤ p.amt ∧ p.amt ≤ 1152921504606846976) (w : World) (hS : Pens w ad l) : Calls Try.prog 7 #[.agg (tabv (ledv (x : Int) (y : Int) (.slice ad n cap)) 3)] w fun e w' => SmPost (x + y + amN l) w e w' := by
  obtain ⟨w1, hW1⟩ : ∃ wX, w.alloc (.cells (tabv (ledv (x : Int) (y : Int) (.slice ad n cap)) 3) 24) = wX := ⟨_, rfl⟩
  have r1 : Has w1 w.heap.size 24 (ledv (x : Int) (y : Int) (.slice ad n cap)) 3 := by rw [← hW1]; exact Has.new w 24 (ledv (x : Int) (y : Int) (.slice ad n cap)) 3 _ rfl
  have b1 : Below w.heap.size w w1 := by rw [← hW1]; exact (Below.refl w.heap.size w).alloc (Nat.le_refl _) _
  have hmf := hmf
  obtain ⟨w2, hW2⟩ : ∃ wX, w1.alloc (.cells #[.int .i64 0] 2) = wX := ⟨_, rfl⟩
  have r2 : Has w2 w1.heap.size 2 (N1 0) 1 := by rw [← hW2]; exact Has.new w1 2 (N1 0) 1 _ rfl
  have b2 : Below w1.heap.size w1 w2 := by rw [← hW2]; exact (Below.refl _ _).alloc (Nat.le_refl _) _
  obtain ⟨w3, hW3⟩ : ∃ wX, w2.alloc (.cells #[.int .i64 0] 2) = wX := ⟨_, rfl⟩
  have r3 : Has w3 w2.heap.size 2 (N1 0) 1 := by rw [← hW3]; exact Has.new w2 2 (N1 0) 1 _ rfl
  have b3 : Below w2.heap.size w2 w3 := by rw [← hW3]; exact (Below.refl _ _).alloc (Nat.le_refl _) _
  have l1 : w.heap.size < w1.heap.size := r1.lt
  have l2 : w1.heap.size < w2.heap.size := r2.lt
  have r23 := r2.below b3 r2.lt
  have bw3 : Below w1.heap.size w1 w3 := b2.trans (b3.mono b2.size)
  have r13 := r1.below bw3 r1.lt
  have c2 : w3.cell? ⟨w1.heap.size, 0, none⟩ = some (.int .i64 0) := r23.cell 0 (by omega)
  have c3 : w3.cell? ⟨w2.heap.size, 0, none⟩ = some (.int .i64 0) := r3.cell 0 (by omega)
  have f2 := r23.frozen 0
  have f3 := r3.frozen 0
  have n1 : ¬ w1.heap.size = w2.heap.size := by omega
  have n2 : ¬ w2.heap.size = w1.heap.size := by omega
  have bB : Below w.heap.size w w3 := b1.trans (bw3.mono b1.size)
  have HSP := hide hS
  obtain ⟨w4, hW4⟩ : ∃ wX, (w3.setCell ⟨w1.heap.size, 0, none⟩ (.int .i64 0)).setCell ⟨w2.heap.size, 0, none⟩ (.int .i64 0) = wX := ⟨_, rfl⟩
  have k4 : Keep (fun i => i = w2.heap.size ∨ i = w1.heap.size) w3 w4 := by rw [← hW4]; exact (keep_set _ _ _ _ (.inr rfl)).trans (keep_set _ _ _ _ (.inl rfl))
  have s4 : SumS 0 w2.heap.size w1.heap.size w4 := by
    rw [← hW4]
    exact ⟨(r3.other ⟨w1.heap.size, 0, none⟩ _ n2).n1 0, (r23.n1 0).other ⟨w2.heap.size, 0, none⟩ _ n1⟩
  have B34 : Below w.heap.size w3 w4 := k4.below (by have := r13.lt; omega) (fun i hi e => by omega)
  have K4 : Hid (SV w w.heap.size w2.heap.size w1.heap.size (x : Int) (y : Int) ad n cap l 0 w4) := ⟨r13.same (k4.block _ r13.lt (by omega)), hS.below (bB.trans B34), s4, bB.trans B34, Nat.le_refl _, l1, l2⟩
  clear r1 b1 r2 b2 r3 b3 r23 bw3 r13 bB k4 s4 B34 hS
  go_enter Try.func7, Try.ntmps7
  go_upto_region 3 with fail
  try rw [hW4]
  clear c2 c3 f2 f3 n1 n2 hW1 hW2 hW3 hW4
  generalize hgl : w2.heap.size = gl at K4 l2 ⊢
  generalize hgh : w1.heap.size = gh at K4 l2 l1 ⊢
  generalize hg : w.heap.size = g at K4 l1 ⊢
  have c10 : w4.cell? ⟨g, 0, none⟩ = some (.int .i64 (x : Int)) := K4.out.rL.cell 0 (by omega)
  have HX := hide hx
  have HY := hide hy
  have HLL := hide hl
  have HN := hide hn
  have HZ := hide hz
  have HD := hide l2
  clear hx hy hl hn hz hgl hgh
  go_wp2_with fail
  refine (add_any 0 x HX.out (by omega) gl gh (.inr HD.out) _ K4.out.sm).mono ?_
  rintro e w5 ⟨rfl, s5, k5⟩
  have K5 := hide (K4.out.add HSP.out s5 k5)
  clear c10 s5 k5 K4
  have c11 : w5.cell? ⟨g, 1, none⟩ = some (.int .i64 (y : Int)) := K5.out.rL.cell 1 (by omega)
  go_wp2_with fail
  refine (add_any (0 + x) y HY.out (by have := HX.out; omega) gl gh (.inr HD.out) _ K5.out.sm).mono ?_
  rintro e w6 ⟨rfl, s6, k6⟩
  have K6 := hide (K5.out.add HSP.out s6 k6)
  clear c11 s6 k6 K5 l1 l2
  go_wp2
  go_loopw [7] (fun ix wr => ∃ j : Nat, j ≤ n ∧ ix = .int .i64 (j : Int) ∧ Hid (SV w g gl gh (x : Int) (y : Int) ad n cap l (0 + x + y + amN (l.take j)) wr)) (fun ix _ => n - (intOf ix).toNat)
  case atStart => exact ⟨0, Nat.zero_le _, rfl, by rw [List.take_zero]; exact K6.out⟩
  case round =>
    obtain ⟨j, hj, rfl, KW⟩ := hrel
    have cS : wr.cell? ⟨g, 2, none⟩ = some (.slice ad n cap) := KW.out.rL.cell 2 (by omega)
    by_cases hlt : j < n
    · have hd : decide ((j : Int) < (n : Int)) = true := decide_eq_true (by omega)
      have hd2 : decide (j < n) = true := decide_eq_true hlt
      have hp1 : (0 : Int) ≤ (j : Int) := by omega
      have hp2 : (j : Int) < (n : Int) := by omega
      have zj : IntKind.i64.wrap ((j : Int) + 1) = (j : Int) + 1 := by rw [IntKind.wrap_i64]; have := HZ.out; omega
      obtain ⟨s, hs⟩ : ∃ s, l[j]? = some s := ⟨_, List.getElem?_eq_getElem (by rw [HN.out]; exact hlt)⟩
      obtain ⟨b, o, rfl, hb, hA⟩ := KW.out.ps.get j s hs
      have hin : s ∈ l := List.mem_of_getElem? hs
      obtain ⟨a, ha⟩ : ∃ a : Nat, s.amt = (a : Int) := ⟨s.amt.toNat, by have := (HLL.out s hin).1; omega⟩
      have HA1 : Hid (a ≤ 1152921504606846976) := by show _ ≤ _; have := (HLL.out s hin).2; omega
      have HT : Hid (amN (l.take (j + 1)) = amN (l.take j) + a) := by show _ = _; rw [amN_next hs, ha]; rfl
      have HT2 : Hid (amN (l.take j) ≤ 966 * 1152921504606846976) := by
        show _ ≤ _
        have h1 := amN_le (l := l.take j) (fun p hp => (HLL.out p (List.mem_of_mem_take hp)).2)
        rw [List.length_take, HN.out] at h1
        have h2 := HZ.out
        exact Nat.le_trans h1 (Nat.mul_le_mul_right _ (by omega))
      have cA : wr.cell? ⟨b, o + j * 35 + 2, none⟩ = some (.int .i64 (a : Int)) := by
        have h1 := hA 2 (by omega)
        have h2 : s.v 2 = .int .i64 s.amt := rfl
        rw [h2, ha] at h1
        exact h1
      have HJ := hide hlt
      clear hA hs hin ha hlt hj hb
      go_wp2_with fail
      refine (add_any _ a HA1.out (by have := HT2.out; have := HX.out; have := HY.out; omega) gl gh (.inr HD.out) _ KW.out.sm).mono ?_
      rintro e w7 ⟨rfl, s7, k7⟩
      rw [Nat.add_assoc, ← HT.out] at s7
      have K7 := hide (KW.out.add HSP.out s7 k7)
      clear cS cA s7 k7 KW
      go_wp2
      go_roundw
      case rel => exact ⟨j + 1, by have := HJ.out; omega, by go_num, K7.out⟩
      case measure => have := HJ.out; simp [intOf]; omega
    · have hjn : j = n := by omega
      have hd : decide ((j : Int) < (n : Int)) = false := decide_eq_false (by omega)
      have hd2 : decide (j < n) = false := decide_eq_false hlt
      obtain ⟨q1, hq1⟩ : ∃ z, ((x + y + amN l) / 2305843009213693952 : Nat) = z := ⟨_, rfl⟩
      obtain ⟨q2, hq2⟩ : ∃ z, ((x + y + amN l) % 2305843009213693952 : Nat) = z := ⟨_, rfl⟩
      have eT : 0 + x + y + amN (l.take j) = x + y + amN l := by rw [List.take_of_length_le (by rw [HN.out]; omega)]; omega
      have sm := KW.out.sm
      rw [eT] at sm
      have i1 := sm.hi
      have i2 := sm.lo
      rw [hq1] at i1
      rw [hq2] at i2
      have d1 : wr.cell? ⟨gh, 0, none⟩ = some (.int .i64 (q1 : Int)) := i1.cell 0 (by omega)
      have d2 : wr.cell? ⟨gl, 0, none⟩ = some (.int .i64 (q2 : Int)) := i2.cell 0 (by omega)
      have GB := hide KW.out.bel
      have HQ : Hid ((x + y + amN l) / 2305843009213693952 = q1 ∧ (x + y + amN l) % 2305843009213693952 = q2) := ⟨hq1, hq2⟩
      clear hq1 hq2 eT sm i1 i2 KW hjn hlt hj
      go_upto_region 9 with fail
      refine wp_region_noPanic ?_
      refine wp_region_held_drew (S := fun wx => Below wr.heap.size wr wx) (by kernel_rfl) ((Below.refl _ _).drew) (fun hHeld => ?_)
      refine takeH 0 (some 32) (.int .i64 (q1 : Int)) rfl rfl (by kernel_rfl) (by kernel_rfl) (by kernel_rfl) (fun _ _ _ h => h) (by rfl) (fun w hw => by have c : w.cell? ⟨gh, 0, none⟩ = some (.int .i64 (q1 : Int)) := (hw.cell (World.block_lt_of_cell? _ _ d1)).trans d1; first | (go_simp; done) | (go_simp; rfl)) hHeld ?_
      simp only [Act.put, List.setIfInBounds_toArray, List.set_cons_zero, List.set_cons_succ]
      refine takeH 1 (some 33) (.int .i64 (q2 : Int)) rfl rfl (by kernel_rfl) (by kernel_rfl) (by kernel_rfl) (fun _ _ _ h => h) (by rfl) (fun w hw => by have c : w.cell? ⟨gl, 0, none⟩ = some (.int .i64 (q2 : Int)) := (hw.cell (World.block_lt_of_cell? _ _ d2)).trans d2; first | (go_simp; done) | (go_simp; rfl)) hHeld ?_
      simp only [Act.put, List.setIfInBounds_toArray, List.set_cons_zero, List.set_cons_succ]
      refine takeH 2 (some 2) (.int .i64 (q1 : Int)) rfl rfl (by kernel_rfl) (by kernel_rfl) (by kernel_rfl) (fun _ _ _ h => h) (by rfl) (fun w hw => by first | rfl | (go_simp; done) | (go_simp; rfl) | (go_simp; omega)) hHeld ?_
      simp only [Act.put, List.setIfInBounds_toArray, List.set_cons_zero, List.set_cons_succ]
      refine takeH 3 (some 3) (.int .i64 (q2 : Int)) rfl rfl (by kernel_rfl) (by kernel_rfl) (by kernel_rfl) (fun _ _ _ h => h) (by rfl) (fun w hw => by first | rfl | (go_simp; done) | (go_simp; rfl) | (go_simp; omega)) hHeld ?_
      simp only [Act.put, List.setIfInBounds_toArray, List.set_cons_zero, List.set_cons_succ]
      refine ⟨by kernel_rfl, ?_⟩
      refine NoPanic.normal ?_
      go_wp2
      go_ret2
      unfold SmPost
      rw [HQ.out.1, HQ.out.2]
      exact ⟨rfl, GB.out.trans (hHeld.mono GB.out.size)⟩
end Go.Proofs.Ythmbpddpdbkioaa
