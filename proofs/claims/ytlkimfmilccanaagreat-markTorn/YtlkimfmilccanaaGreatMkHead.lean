/-
  The statements' own head: example 1; least, name.
-/
import Derived.Test.YtlkimfmilccanaaGreatMkRaise
import Derived.Test.YtlkimfmilccanaaGreatKOpen
import Derived.Test.YtlkimfmilccanaaGreatRowsOwn
namespace Go.Proofs.YtlkimfmilccanaaGreat
open Go.RowKit Go.Maps Go.WideMaps
set_option linter.unusedVariables false
set_option linter.unusedSimpArgs false
theorem mkp_isSome {B : Nat} {w w' : World} {L : List Item} {i : Nat} {D : AD → Item} {T : TypeId} {p : Nat} {k : ByteArray} {R : MAns} {e : Ending} {v : Int} {x : Nat} (h : MkPost B w L i D T p k R e w') (h1 : R.2.1 = some (v, x)) :
    ∃ g, e = .returned (.tuple #[.pointer (some ⟨g, 0, none⟩), .int .i64 R.1]) ∧ Lies B w' (L.set i (D R.2.2) ++ [.mkI T g p k v x]) ∧ Below B w w' := by
  obtain ⟨hb, h2⟩ := h
  rw [h1] at h2
  obtain ⟨g, he, hl⟩ := h2
  exact ⟨g, he, hl, hb⟩
theorem mkp_isNone {B : Nat} {w w' : World} {L : List Item} {i : Nat} {D : AD → Item} {T : TypeId} {p : Nat} {k : ByteArray} {R : MAns} {e : Ending} (h : MkPost B w L i D T p k R e w') (h1 : R.2.1 = none) :
    e = .returned (.tuple #[.pointer none, .int .i64 R.1]) ∧ Lies B w' (L.set i (D R.2.2)) ∧ Below B w w' := by
  obtain ⟨hb, h2⟩ := h
  rw [h1] at h2
  exact ⟨h2.1, h2.2, hb⟩
def mL : Key := [109]
def HF0 : AD := AD.fresh 1000
def HF1 : AD := (HF0.openM mL).2.2
def HF2 : AD := (HF1.raiseM mL (-1) 1 5).2.2
set_option maxRecDepth 100000 in
theorem hv1 : (HF0.openM mL).1 = 0 := by decide +kernel
set_option maxRecDepth 100000 in
theorem hv2 : (HF0.openM mL).2.1 = some (-1, 1) := by decide +kernel
set_option maxRecDepth 100000 in
theorem hv3 : (HF1.raiseM mL (-1) 1 5).1 = 0 := by decide +kernel
set_option maxRecDepth 100000 in
theorem hv4 : (HF1.raiseM mL (-1) 1 5).2.1 = (5, 0) := by decide +kernel
set_option maxRecDepth 100000 in
theorem hv5 : HF2.read mL 64 8 = ([0, 0, 0, 0, 0, 0, 0, 5], 0) := by decide +kernel
set_option maxRecDepth 100000 in
theorem hv6 : HF2.size mL = (128, 0) := by decide +kernel
set_option maxRecDepth 100000 in
theorem hv7 : HF2.list = [mL] := by decide +kernel
theorem hv8 : HF2.raiseM (ByteArray.mk #[109]).data.toList 5 0 3 = (0, (5, 0), HF2) := by
  unfold AD.raiseM
  rw [if_neg (by decide), if_pos (by decide)]
theorem hv9 : HF2.raiseM (ByteArray.mk #[109]).data.toList 5 0 (-2) = (1, (5, 0), HF2) := by
  unfold AD.raiseM
  rw [if_pos (by decide)]
section
variable {B : Nat} {w : World} {p g : Nat}
abbrev mB : ByteArray := ⟨#[109]⟩
theorem hc1 (h : Lies B w [.disk p HF0]) : Calls Tryz.prog 9 #[.pointer (some ⟨p, 0, none⟩), .string ⟨#[109]⟩] w fun e w' => ∃ g, e = .returned (.tuple #[.pointer (some ⟨g, 0, none⟩), .int .i64 0]) ∧ Lies B w' [.disk p HF1, .mkI 91 g p mB (-1) 1] ∧ Below B w w' :=
  (mopen_any (i := 0) h rfl ⟨#[109]⟩ (by decide)).mono (fun e w' hp => by
    obtain ⟨g, he, hl, hb⟩ := mkp_isSome hp hv2
    refine ⟨g, he.trans ?_, hl, hb⟩
    rw [show (HF0.openM (ByteArray.mk #[109]).data.toList).1 = 0 from hv1])
theorem raise2 {A A' : AD} {k : ByteArray} {v v' n E : Int} {x x' : Nat} (h : Lies B w [.disk p A, .mkI 91 g p k v x]) (hk : k.size ≤ 1000) (hx : x ≤ 1) (hR : A.raiseM k.data.toList v x n = (E, (v', x'), A')) : Calls Tryz.prog 11 #[.pointer (some ⟨g, 0, none⟩), .int .i64 n] w fun e w' => e = .returned (.int .i64 E) ∧ Lies B w' [.disk p A', .mkI 91 g p k v' x'] ∧ Below B w w' :=
  mraise_any (i := 0) (j := 1) h rfl rfl (by decide) hk hx n (E, (v', x'), A') hR
theorem pair3 {α β γ : Type} (r : α × β × γ) : r = (r.1, r.2.1, r.2.2) := rfl
theorem hv10 : HF1.raiseM (ByteArray.mk #[109]).data.toList (-1) 1 5 = (0, (5, 0), HF2) := by
  have e := pair3 (HF1.raiseM mL (-1) 1 5)
  have e2 : (HF1.raiseM mL (-1) 1 5).2.2 = HF2 := by unfold HF2; rfl
  rw [hv3, hv4, e2] at e
  exact e
theorem hc2 (h : Lies B w [.disk p HF1, .mkI 91 g p mB (-1) 1]) : Calls Tryz.prog 11 #[.pointer (some ⟨g, 0, none⟩), .int .i64 5] w fun e w' => e = .returned (.int .i64 0) ∧ Lies B w' [.disk p HF2, .mkI 91 g p mB 5 0] ∧ Below B w w' :=
  raise2 h (by decide) (by decide) hv10
theorem hc3 (h : Lies B w [.disk p HF2, .mkI 91 g p mB 5 0]) : Calls Tryz.prog 11 #[.pointer (some ⟨g, 0, none⟩), .int .i64 3] w fun e w' => e = .returned (.int .i64 0) ∧ Lies B w' [.disk p HF2, .mkI 91 g p mB 5 0] ∧ Below B w w' :=
  raise2 h (by decide) (by decide) hv8
theorem hc4 (h : Lies B w [.disk p HF2, .mkI 91 g p mB 5 0]) : Calls Tryz.prog 11 #[.pointer (some ⟨g, 0, none⟩), .int .i64 (-2)] w fun e w' => e = .returned (.int .i64 1) ∧ Lies B w' [.disk p HF2, .mkI 91 g p mB 5 0] ∧ Below B w w' :=
  raise2 h (by decide) (by decide) hv9
theorem hc5 {L : List Item} (h : Lies B w (.disk p HF2 :: L)) : Calls Tryz.prog 12 #[.pointer (some ⟨p, 0, none⟩), .string ⟨#[109]⟩, .int .i64 64, .int .i64 8] w fun e w' => e = .returned (.tuple #[.string ⟨#[0, 0, 0, 0, 0, 0, 0, 5]⟩, .int .i64 0]) ∧ Lies B w' (.disk p HF2 :: L) ∧ Below B w w' := by
  have := s_read (i := 0) h rfl ⟨#[109]⟩ (by decide) 64 8
  rw [show HF2.read (ByteArray.mk #[109]).data.toList 64 8 = ([0, 0, 0, 0, 0, 0, 0, 5], 0) from hv5] at this
  exact this
theorem hc6 {L : List Item} (h : Lies B w (.disk p HF2 :: L)) : Calls Tryz.prog 32 #[.pointer (some ⟨p, 0, none⟩), .string ⟨#[109]⟩] w fun e w' => e = .returned (.tuple #[.int .i64 128, .int .i64 0]) ∧ w' = w := by
  have := s_size (i := 0) h rfl ⟨#[109]⟩ (by decide)
  rw [show HF2.size (ByteArray.mk #[109]).data.toList = (128, 0) from hv6] at this
  exact this
theorem hc7 {L : List Item} (h : Lies B w (.disk p HF2 :: L)) : Calls Tryz.prog 33 #[.pointer (some ⟨p, 0, none⟩)] w fun e w' => ∃ ad cap, e = .returned (.slice ad 1 cap) ∧ Below B w w' :=
  (s_list (i := 0) h rfl).mono (fun e w' ⟨v, he, hr, _, hb⟩ => by
    rw [hv7] at hr
    have hr' : w'.ownsRow 0 9 1 v 1 ([mL].map encStr) := hr
    obtain ⟨ad, cap, rfl, _⟩ := row_at hr'
    exact ⟨ad, cap, he, hb⟩)
end
set_option maxRecDepth 5000 in
set_option maxHeartbeats 2000000 in
theorem head_any (w : World) : Calls Tryz.prog 7 #[] w fun e w' => e = .returned (.bool true) ∧ Below w.heap.size w w' := by
  obtain ⟨B, hB⟩ : ∃ B, w.heap.size = B := ⟨_, rfl⟩
  have hl0 : Lies B w [] := Lies.nil (by rw [hB]; exact Nat.le_refl _)
  have hnew := k_new hl0 1000 (by decide) (by decide)
  rw [hB]
  clear hl0 hB
  go_enter Tryz.func7, Tryz.ntmps7
  go_wp2_with fail
  refine hnew.mono ?_
  rintro e w1 ⟨p, rfl, h, hb⟩
  have HB1 := hide hb
  have hc := hc1 h
  clear h hb hnew
  go_wp2_with fail
  refine hc.mono ?_
  rintro e w2 ⟨g, rfl, h, hb⟩
  have HB2 := hide (HB1.out.trans hb)
  have HH := hide h
  have hcv := mvalue_any (j := 1) h rfl
  clear h hb hc HB1
  go_wp2_with fail
  refine hcv.mono ?_
  rintro e w3 ⟨rfl, hw⟩
  obtain rfl := hw.symm
  clear hw hcv
  have hc := hc2 HH.out
  clear HH
  go_wp2_with fail
  refine hc.mono ?_
  rintro e w4 ⟨rfl, h, hb⟩
  have HB4 := hide (HB2.out.trans hb)
  have HH := hide h
  have hcv := mvalue_any (j := 1) h rfl
  clear h hb hc HB2
  go_wp2_with fail
  refine hcv.mono ?_
  rintro e w5 ⟨rfl, hw⟩
  obtain rfl := hw.symm
  clear hw hcv
  have hc := hc3 HH.out
  clear HH
  go_wp2_with fail
  refine hc.mono ?_
  rintro e w6 ⟨rfl, h, hb⟩
  have HB6 := hide (HB4.out.trans hb)
  have HH := hide h
  have hcv := mvalue_any (j := 1) h rfl
  clear h hb hc HB4
  go_wp2_with fail
  refine hcv.mono ?_
  rintro e w7 ⟨rfl, hw⟩
  obtain rfl := hw.symm
  clear hw hcv
  have hc := hc4 HH.out
  clear HH
  go_wp2_with fail
  refine hc.mono ?_
  rintro e w8 ⟨rfl, h, hb⟩
  have HB8 := hide (HB6.out.trans hb)
  have hc := hc5 h
  clear h hb HB6
  go_wp2_with fail
  refine hc.mono ?_
  rintro e w9 ⟨rfl, h, hb⟩
  have HB9 := hide (HB8.out.trans hb)
  have hc := hc6 h
  have HH := hide h
  clear h hb HB8
  go_wp2_with fail
  refine hc.mono ?_
  rintro e w10 ⟨rfl, hw⟩
  obtain rfl := hw.symm
  clear hw
  have hc := hc7 HH.out
  clear HH
  go_wp2_with fail
  refine hc.mono ?_
  rintro e w11 ⟨ad, cap, rfl, hb⟩
  have HB11 := hide (HB9.out.trans hb)
  clear hb HB9 hc
  go_wp2
  go_ret
  exact ⟨rfl, HB11.out⟩
/-! ### least, name -/
def leastI (n m : Int) : Int := if Int.tmod n m < 0 then Int.tmod n m + m else Int.tmod n m
theorem least_rng {n m : Int} (hm : 0 < m) : 0 ≤ leastI n m ∧ leastI n m < m := by
  unfold leastI
  have h1 := Int.tmod_lt_of_pos n hm
  have h2 : -m < Int.tmod n m := by
    have := Int.tmod_lt_of_pos (-n) hm
    rw [Int.neg_tmod] at this
    omega
  split <;> omega
theorem least_any (n m : Int) (hm : 0 < m ∧ m < 1000000) (w : World) : Calls Tryz.prog 15 #[.int .i64 n, .int .i64 m] w fun e w' => e = .returned (.int .i64 (leastI n m)) ∧ w' = w := by
  have hr := least_rng (n := n) hm.1
  unfold leastI at hr ⊢
  obtain ⟨k, hk⟩ : ∃ k, Int.tmod n m = k := ⟨_, rfl⟩
  have h1 := Int.tmod_lt_of_pos n hm.1
  have h2 : -m < Int.tmod n m := by
    have := Int.tmod_lt_of_pos (-n) hm.1
    rw [Int.neg_tmod] at this
    omega
  have hm0 : m ≠ 0 := by omega
  have hm1 : (m == 0) = false := beq_eq_false_iff_ne.2 hm0
  have hw1 : IntKind.i64.wrap k = k := wrap_id (by omega) (by omega)
  have hw2 : wrap64 k = k := by unfold wrap64; omega
  by_cases hn : k < 0
  · have d : decide (k < 0) = true := decide_eq_true hn
    have hw3 : wrap64 (k + m) = k + m := by unfold wrap64; omega
    rw [hk, if_pos hn]
    have HW := hide hw3
    clear hr h1 h2 hm hw3
    go_enter Tryz.func15, Tryz.ntmps15
    go_wp2
    go_ret
    exact ⟨by rw [HW.out]; rfl, rfl⟩
  · have d : decide (k < 0) = false := decide_eq_false hn
    rw [hk, if_neg hn]
    clear hr h1 h2 hm
    go_enter Tryz.func15, Tryz.ntmps15
    go_wp2
    go_ret
    exact ⟨rfl, rfl⟩
def nameT (two : Bool) : ByteArray := if two then ⟨#[116, 119, 111]⟩ else ⟨#[111, 110, 101]⟩
theorem name_any (two : Bool) (w : World) : Calls Tryz.prog 21 #[.bool two] w fun e w' => e = .returned (.string (nameT two)) ∧ w' = w := by
  cases two
  all_goals
  · unfold nameT
    go_enter Tryz.func21, Tryz.ntmps21
    go_wp2
    go_ret
    exact ⟨rfl, rfl⟩
end Go.Proofs.YtlkimfmilccanaaGreat
