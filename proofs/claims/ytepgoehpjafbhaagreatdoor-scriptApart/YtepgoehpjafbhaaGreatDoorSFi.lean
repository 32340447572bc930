/-
  strconv.FormatInt and Itoa whatever strconv's table of powers holds: what they tell is a plain function of the number.
-/
import Derived.Test.YtepgoehpjafbhaaGreatDoorSFb
import Derived.Shelf.Strconv.Itoa4
import Derived.Lib.ItoaMem
namespace Go.Proofs.YtepgoehpjafbhaaGreatDoor
open Go.Shelf Go.RowKit Go.Sort Go.Lib
variable {P : Program} {ρ : Ren}
set_option linter.unusedVariables false
set_option linter.unusedSimpArgs false
/-- The table's cells, as they are. -/
def TabAt (ρ : Ren) (T : Nat → Int) (w : World) : Prop := ∀ i, i < 20 → w.cell? ⟨ρ.g 17, i, none⟩ = some (.int .u64 (T i))
theorem TabAt.below {T : Nat → Int} {w w' : World} (h : TabAt ρ T w) (k : Below w.heap.size w w') : TabAt ρ T w' := fun i hi => by
  have h0 := h i hi
  have hl := World.block_lt_of_cell? w ⟨ρ.g 17, i, none⟩ h0
  rw [k.cell hl]
  exact h0
def ndT (T : Nat → Int) (u : Nat) : Nat := Lib.l10 (Lib.bitLen u) + (if T (Lib.l10 (Lib.bitLen u)) ≤ (u : Int) then 1 else 0)
theorem l10_le (u : Nat) (h : u < 18446744073709551616) : Lib.l10 (Lib.bitLen u) ≤ 19 := by
  have := Lib.bitLen_le u 64 (Nat.le_refl _) h
  unfold Lib.l10
  omega
theorem ndT_le (T : Nat → Int) (u : Nat) (h : u < 18446744073709551616) : ndT T u ≤ 20 := by
  have := l10_le u h
  unfold ndT
  split <;> omega
set_option maxHeartbeats 2000000 in
set_option maxRecDepth 100000 in
theorem numDigits_any (L : Lays.n284 P ρ) (T : Nat → Int) (u : Nat) (h2 : u < 18446744073709551616) (w : World) (htab : TabAt ρ T w) :
    Calls P (ρ.f 284) #[.int .u64 u] w fun e w' => e = .returned (.int .i64 (ndT T u)) ∧ w' = w := by
  have mixed := L.mixed
  have t53 := L.t53; have a53 := L.a53; have z53 := L.z53; have v53 := L.v53
  have t3 := L.t3; have a3 := L.a3; have z3 := L.z3; have v3 := L.v3
  have t212 := L.t212; have a212 := L.a212; have z212 := L.z212; have v212 := L.v212
  have t0 := L.t0; have a0 := L.a0; have z0 := L.z0; have v0 := L.v0
  have t4 := L.t4; have a4 := L.a4; have z4 := L.z4; have v4 := L.v4
  have e129 : ∀ args w, (callFunc (ρ.f 129) args).run P w = .ok (.enter (ρ.f 129) args) w := enters_of L.f129 (by kernel_rfl) rfl
  have e317 : ∀ args w, (callFunc (ρ.f 317) args).run P w = .ok (.enter (ρ.f 317) args) w := enters_of L.f317 (by kernel_rfl) rfl
  have e318 : ∀ args w, (callFunc (ρ.f 318) args).run P w = .ok (.enter (ρ.f 318) args) w := enters_of L.f318 (by kernel_rfl) rfl
  have h19 := l10_le u h2
  have hL : Lib.bitLen u ≤ 64 := Lib.bitLen_le u 64 (Nat.le_refl _) h2
  have hcell := htab (Lib.l10 (Lib.bitLen u)) (by omega)
  have hto : ((u : Int)).toNat = u := by omega
  obtain ⟨R, hR⟩ : ∃ R, ndT T u = R := ⟨_, rfl⟩
  rw [hR]
  unfold ndT at hR
  generalize hq : Lib.l10 (Lib.bitLen u) = q at hR h19 hcell
  generalize T q = Tq at hR hcell
  have h20 : q < 20 := by omega
  have HR := Lib.hid hR
  clear hR htab
  by_cases hle : Tq ≤ (u : Int)
  · have hd : decide ((u : Int) ≥ Tq) = true := decide_eq_true hle
    have hd2 : decide (Tq ≤ (u : Int)) = true := decide_eq_true hle
    have HE : Hid (R = q + 1) := Lib.hid (by rw [← HR.out, if_pos hle])
    clear hle
    go_enter L.f284, Body.n284_ntmps ρ
    go_wp2_with (first
      | (go_at_fn (ρ.f 129); refine (Any.bits_Len64 { L with } _ _ (by omega) (by omega)).mono ?_; rintro e w' ⟨rfl, rfl⟩)
      | (go_at_fn (ρ.f 317); refine (Any.internal_strconv_log10Pow2 { L with } _ (by first | exact hL | (rw [hto]; exact hL)) _).mono ?_; rintro e w' ⟨rfl, rfl⟩)
      | (go_at_fn (ρ.f 318); refine (Any.internal_strconv_bool2_int { L with } _ _).mono ?_; rintro e w' ⟨rfl, rfl⟩))
    all_goals go_ret
    all_goals (
      refine ⟨?_, rfl⟩
      rw [HE.out]
      first | rfl | (congr 2; simp_all; omega) | (congr 2; simp_all) | (congr 2; omega))
  · have hd : decide ((u : Int) ≥ Tq) = false := decide_eq_false hle
    have hd2 : decide (Tq ≤ (u : Int)) = false := decide_eq_false hle
    have HE : Hid (R = q) := Lib.hid (by rw [← HR.out, if_neg hle]; rfl)
    clear hle
    go_enter L.f284, Body.n284_ntmps ρ
    go_wp2_with (first
      | (go_at_fn (ρ.f 129); refine (Any.bits_Len64 { L with } _ _ (by omega) (by omega)).mono ?_; rintro e w' ⟨rfl, rfl⟩)
      | (go_at_fn (ρ.f 317); refine (Any.internal_strconv_log10Pow2 { L with } _ (by first | exact hL | (rw [hto]; exact hL)) _).mono ?_; rintro e w' ⟨rfl, rfl⟩)
      | (go_at_fn (ρ.f 318); refine (Any.internal_strconv_bool2_int { L with } _ _).mono ?_; rintro e w' ⟨rfl, rfl⟩))
    all_goals go_ret
    all_goals (
      refine ⟨?_, rfl⟩
      rw [HE.out]
      first | rfl | (congr 2; simp_all; omega) | (congr 2; simp_all) | (congr 2; omega))
/-- The row of a number's digits, as the table has it. -/
def rowT (T : Nat → Int) (u : Nat) : Array UInt8 := rowOf (ndT T u / 8) (ndT T u % 8) u (Array.replicate (ndT T u) 0)
theorem rowT_size (T : Nat → Int) (u : Nat) : (rowT T u).size = ndT T u := by unfold rowT; rw [rowOf_size, Array.size_replicate]
/-- What FormatInt tells of a number. -/
def fmtT (T : Nat → Int) (n : Int) : List UInt8 :=
  if n < -9223372036854775808 ∨ 9223372036854775807 < n then [] else if 0 ≤ n ∧ n < 100 then Lib.decDigits n.toNat else if n < 0 then 45 :: (rowT T n.natAbs).toList else (rowT T n.natAbs).toList
theorem decDigits_le (i : Nat) (h : i < 100) : (Lib.decDigits i).length ≤ 2 := by
  have : ∀ k : Fin 100, (Lib.decDigits k.val).length ≤ 2 := by decide +kernel
  exact this ⟨i, h⟩
theorem fmtT_len (T : Nat → Int) (n : Int) : (fmtT T n).length ≤ 24 := by
  unfold fmtT
  split
  · simp
  · rename_i h
    have hr := ndT_le T n.natAbs (by omega)
    split
    · rename_i h2
      have := decDigits_le n.toNat (by omega)
      omega
    · split <;> simp [rowT_size] <;> omega
theorem fmtT_small (T : Nat → Int) (i : Nat) (h : i < 100) : fmtT T (i : Int) = Lib.decDigits i := by
  unfold fmtT
  rw [if_neg (by omega), if_pos (by omega)]
  rfl
theorem grow_below (w : World) (k : Nat) (os : Array Obj) : Below w.heap.size w (grow (w.drewN k) os) :=
  ⟨rfl, rfl, rfl, by show w.heap.size ≤ (w.heap ++ os).size; rw [Array.size_append]; omega, fun _ hj => Sort.heap_grow_old (Sort.ahead w k) os hj⟩
set_option maxHeartbeats 6400000 in
set_option maxRecDepth 100000 in
theorem fmt_any (L : Lays.n246 P ρ) (T : Nat → Int) (n : Int) (h0 : -9223372036854775808 ≤ n) (h1 : n ≤ 9223372036854775807) (w : World) (htab : TabAt ρ T w) :
    Calls P (ρ.f 246) #[.int .i64 n, .int .i64 10] w fun e w' => e = .returned (.string ⟨(fmtT T n).toArray⟩) ∧ Below w.heap.size w w' := by
  by_cases hs : 0 ≤ n ∧ n < 100
  · obtain ⟨i, rfl⟩ : ∃ i : Nat, n = i := ⟨n.toNat, by omega⟩
    have hi : i < 100 := by omega
    refine (Any.internal_strconv_FormatInt_10_small L i hi w).mono ?_
    rintro e w' ⟨rfl, rfl⟩
    exact ⟨by rw [fmtT_small T i hi], Below.refl _ _⟩
  have mixed := L.mixed
  have t2 := L.t2; have a2 := L.a2; have z2 := L.z2; have v2 := L.v2
  have t3 := L.t3; have a3 := L.a3; have z3 := L.z3; have v3 := L.v3
  have t9 := L.t9; have a9 := L.a9; have z9 := L.z9; have v9 := L.v9
  have t4 := L.t4; have a4 := L.a4; have z4 := L.z4; have v4 := L.v4
  have t171 := L.t171; have a171 := L.a171; have z171 := L.z171; have v171 := L.v171
  have t0 := L.t0; have a0 := L.a0; have z0 := L.z0; have v0 := L.v0
  have t53 := L.t53; have a53 := L.a53; have z53 := L.z53; have v53 := L.v53
  have t37 := L.t37; have a37 := L.a37; have z37 := L.z37; have v37 := L.v37
  have t5 := L.t5; have a5 := L.a5; have z5 := L.z5; have v5 := L.v5
  have t173 := L.t173; have a173 := L.a173; have z173 := L.z173; have v173 := L.v173
  have e283 : ∀ args w, (callFunc (ρ.f 283) args).run P w = .ok (.enter (ρ.f 283) args) w := enters_of L.f283 (by kernel_rfl) rfl
  have e284 : ∀ args w, (callFunc (ρ.f 284) args).run P w = .ok (.enter (ρ.f 284) args) w := enters_of L.f284 (by kernel_rfl) rfl
  have e285 : ∀ args w, (callFunc (ρ.f 285) args).run P w = .ok (.enter (ρ.f 285) args) w := enters_of L.f285 (by kernel_rfl) rfl
  by_cases hneg : n < 0
  · obtain ⟨u, rfl⟩ : ∃ u : Nat, n = -(u : Int) := ⟨n.natAbs, by omega⟩
    have hu1 : 1 ≤ u := by omega
    have hu64 : u < 18446744073709551616 := by omega
    have hnd20 := ndT_le T u hu64
    have hF : Hid (fmtT T (-(u : Int)) = 45 :: (rowT T u).toList) := Lib.hid (by unfold fmtT; rw [if_neg (by omega), if_neg hs, if_pos (by omega)]; rw [show (-(u : Int)).natAbs = u by omega])
    have hwr : IntKind.u64.wrap (-IntKind.u64.wrap (-(u : Int))) = (u : Int) := by rw [IntKind.wrap_u64, IntKind.wrap_u64]; omega
    obtain ⟨N, hN⟩ : ∃ N, ndT T u = N := ⟨_, rfl⟩
    rw [hN] at hnd20
    have hdig := numDigits_any (P := P) (ρ := ρ) { L with } T u hu64 (w.alloc (.cells Lib.zeros24 (ρ.t 171))) (htab.below ((Below.refl _ w).alloc (Nat.le_refl _) _))
    rw [hN] at hdig
    obtain ⟨D, hD⟩ : ∃ D, rowT T u = D := ⟨_, rfl⟩
    have hDs : D.size = N := by rw [← hD, rowT_size, hN]
    have hal : P.arrayLen (ρ.t 171) = 24 := by simp [Program.arrayLen, L.t171]
    have hsl1 : ∀ W, (Instr.sliceAt (ρ.t 171) (.pointer (some ⟨w.heap.size, 0, none⟩)) (some (.int .i64 1)) (some (.int .i64 (1 + (N : Int)))) none).run P W = .ok (.slice (some ⟨w.heap.size, 1, none⟩) N 23) W := fun W => by
      rw [run_sliceAt_array_lh W (ρ.t 171) ⟨w.heap.size, 0, none⟩ (by simp [Program.arrayLen, Program.elem, L.t171]) .i64 .i64 1 (1 + (N : Int)) (by omega) (by omega) (by rw [hal]; omega)]
      go_simp
      omega
    have hH0 := Lib.holds_zero w (ρ.t 171) N (by omega)
    have hfmt := format10_any (P := P) (ρ := ρ) { L with } w.heap.size 1 23 u (Array.replicate N 0) (w.alloc (.cells Lib.zeros24 (ρ.t 171))) hH0 hu64 (by rw [Array.size_replicate]; omega)
    rw [Array.size_replicate] at hfmt
    have hrow : rowOf (N / 8) (N % 8) u (Array.replicate N 0) = D := by rw [← hD]; unfold rowT; rw [hN]
    rw [hrow] at hfmt
    have HH0 := Lib.hid hH0
    have HD := Lib.hid hD
    have HDs := Lib.hid hDs
    clear hH0 hal hN hD hrow hs htab hDs
    go_enter L.f246, Body.n246_ntmps ρ
    go_wp2_with (first
      | (go_at_fn (ρ.f 284); refine hdig.mono ?_; rintro e w' ⟨rfl, rfl⟩))
    go_at_fn (ρ.f 285)
    refine hfmt.mono ?_
    rintro e w' ⟨rfl, k, rfl⟩
    have hc0 : ((putRow (fun (b : UInt8) => Value.int .u8 (b.toNat : Int)) (w.alloc (.cells Lib.zeros24 (ρ.t 171))) w.heap.size 1 D).drewN k).cell? ⟨w.heap.size, 0, none⟩ = some (.int .u8 0) := by
      rw [World.cell?_drewN, cell?_putRow_other _ _ _ _ _ _ (Or.inr (Or.inl (Nat.zero_lt_one))), World.cell?_alloc_new]
      exact Lib.zeros24_at 0 (by omega)
    have hf0 : ((putRow (fun (b : UInt8) => Value.int .u8 (b.toNat : Int)) (w.alloc (.cells Lib.zeros24 (ρ.t 171))) w.heap.size 1 D).drewN k).frozen? ⟨w.heap.size, 0, none⟩ = false := by
      rw [World.frozen?_drewN, frozen?_putRow]
      exact World.frozen?_alloc_new _ _ _ _
    have hal : P.arrayLen (ρ.t 171) = 24 := by simp [Program.arrayLen, L.t171]
    have hsl2 : ∀ W, (Instr.sliceAt (ρ.t 171) (.pointer (some ⟨w.heap.size, 0, none⟩)) none (some (.int .i64 (1 + (N : Int)))) none).run P W = .ok (.slice (some ⟨w.heap.size, 0, none⟩) (1 + N) 24) W := fun W => by
      rw [run_sliceAt_array_h W (ρ.t 171) ⟨w.heap.size, 0, none⟩ (by simp [Program.arrayLen, Program.elem, L.t171]) .i64 (1 + (N : Int)) (by omega) (by rw [hal]; omega)]
      go_simp
      omega
    clear hal
    obtain ⟨W5, hW5⟩ : ∃ x, ((putRow (fun (b : UInt8) => Value.int .u8 (b.toNat : Int)) (w.alloc (.cells Lib.zeros24 (ρ.t 171))) w.heap.size 1 D).drewN k).setCell ⟨w.heap.size, 0, none⟩ (.int .u8 45) = x := ⟨_, rfl⟩
    have hcv : (convert (ρ.t 37) (ρ.t 9) (.slice (some ⟨w.heap.size, 0, none⟩) (1 + N) 24)).run P W5 = .ok (.string ⟨(45 :: D.toList).toArray⟩) W5 := by
      have h := run_convert_bytes_back (P := P) W5 (ρ.t 37) (ρ.t 9) (ρ.t 5) ⟨w.heap.size, 0, none⟩ 24 (45 :: D.toList) L.t37 L.t5 L.t9 (fun j hj => by
        rw [Lib.add_plain, ← hW5]
        cases j with
        | zero => exact World.cell?_setCell_same _ _ _ hc0
        | succ i =>
          have hi : i < D.size := by simpa using hj
          rw [World.cell?_setCell_other _ _ _ _ (by simp), World.cell?_drewN, show 0 + (i + 1) = 1 + i by omega]
          have h2 := cell?_putRow (fun (b : UInt8) => Value.int .u8 (b.toNat : Int)) _ w.heap.size 1 _ D HH0.out (by rw [HDs.out, Array.size_replicate]) i hi
          rw [h2, getElem!_pos D i hi]
          simp)
      rw [List.length_cons, Array.length_toList, HDs.out, Nat.add_comm] at h
      exact h
    have HB : Hid (Below w.heap.size w W5) := Lib.hid (by
      obtain ⟨os, eo⟩ := Lib.fin_neg w (.cells Lib.zeros24 (ρ.t 171)) D k (.int .u8 45)
      rw [← hW5, eo]
      exact grow_below w k os)
    go_wp2_with (rw [hW5])
    go_ret
    refine ⟨?_, HB.out⟩
    rw [hF.out, HD.out]
    rfl
  · obtain ⟨u, rfl⟩ : ∃ u : Nat, n = u := ⟨n.toNat, by omega⟩
    have h100 : 100 ≤ u := by omega
    have hu64 : u < 18446744073709551616 := by omega
    have hnd20 := ndT_le T u hu64
    have hF : Hid (fmtT T (u : Int) = (rowT T u).toList) := Lib.hid (by unfold fmtT; rw [if_neg (by omega), if_neg hs, if_neg (by omega)]; rw [show ((u : Int)).natAbs = u by omega])
    obtain ⟨N, hN⟩ : ∃ N, ndT T u = N := ⟨_, rfl⟩
    rw [hN] at hnd20
    have hdig := numDigits_any (P := P) (ρ := ρ) { L with } T u hu64 (w.alloc (.cells Lib.zeros24 (ρ.t 171))) (htab.below ((Below.refl _ w).alloc (Nat.le_refl _) _))
    rw [hN] at hdig
    obtain ⟨D, hD⟩ : ∃ D, rowT T u = D := ⟨_, rfl⟩
    have hDs : D.size = N := by rw [← hD, rowT_size, hN]
    have hal : P.arrayLen (ρ.t 171) = 24 := by simp [Program.arrayLen, L.t171]
    have hsl1 : ∀ W, (Instr.sliceAt (ρ.t 171) (.pointer (some ⟨w.heap.size, 0, none⟩)) (some (.int .i64 1)) (some (.int .i64 (1 + (N : Int)))) none).run P W = .ok (.slice (some ⟨w.heap.size, 1, none⟩) N 23) W := fun W => by
      rw [run_sliceAt_array_lh W (ρ.t 171) ⟨w.heap.size, 0, none⟩ (by simp [Program.arrayLen, Program.elem, L.t171]) .i64 .i64 1 (1 + (N : Int)) (by omega) (by omega) (by rw [hal]; omega)]
      go_simp
      omega
    have hH0 := Lib.holds_zero w (ρ.t 171) N (by omega)
    have hfmt := format10_any (P := P) (ρ := ρ) { L with } w.heap.size 1 23 u (Array.replicate N 0) (w.alloc (.cells Lib.zeros24 (ρ.t 171))) hH0 hu64 (by rw [Array.size_replicate]; omega)
    rw [Array.size_replicate] at hfmt
    have hrow : rowOf (N / 8) (N % 8) u (Array.replicate N 0) = D := by rw [← hD]; unfold rowT; rw [hN]
    rw [hrow] at hfmt
    have HH0 := Lib.hid hH0
    have HD := Lib.hid hD
    have HDs := Lib.hid hDs
    clear hH0 hal hN hD hrow hs htab hDs
    go_enter L.f246, Body.n246_ntmps ρ
    go_wp2_with (first
      | (go_at_fn (ρ.f 284); refine hdig.mono ?_; rintro e w' ⟨rfl, rfl⟩))
    go_at_fn (ρ.f 285)
    refine hfmt.mono ?_
    rintro e w' ⟨rfl, k, rfl⟩
    obtain ⟨W5, hW5⟩ : ∃ x, (putRow (fun (b : UInt8) => Value.int .u8 (b.toNat : Int)) (w.alloc (.cells Lib.zeros24 (ρ.t 171))) w.heap.size 1 D).drewN k = x := ⟨_, rfl⟩
    have hcv : (convert (ρ.t 37) (ρ.t 9) (.slice (some ⟨w.heap.size, 1, none⟩) N 23)).run P W5 = .ok (.string ⟨D.toList.toArray⟩) W5 := by
      have h := run_convert_bytes_back (P := P) W5 (ρ.t 37) (ρ.t 9) (ρ.t 5) ⟨w.heap.size, 1, none⟩ 23 D.toList L.t37 L.t5 L.t9 (fun j hj => by
        have hi : j < D.size := by simpa using hj
        rw [Lib.add_plain, ← hW5, World.cell?_drewN]
        have h2 := cell?_putRow (fun (b : UInt8) => Value.int .u8 (b.toNat : Int)) _ w.heap.size 1 _ D HH0.out (by rw [HDs.out, Array.size_replicate]) j hi
        rw [h2, getElem!_pos D j hi]
        simp)
      rw [Array.length_toList, HDs.out] at h
      exact h
    have HB : Hid (Below w.heap.size w W5) := Lib.hid (by
      obtain ⟨os, eo⟩ := Lib.fin_pos w (.cells Lib.zeros24 (ρ.t 171)) D k
      rw [← hW5, eo]
      exact grow_below w k os)
    rw [hW5]
    go_wp2
    go_ret
    refine ⟨?_, HB.out⟩
    rw [hF.out, HD.out]
    rfl
set_option maxRecDepth 100000 in
theorem fmtInt_any (L : Lays.n173 P ρ) (T : Nat → Int) (n : Int) (h0 : -9223372036854775808 ≤ n) (h1 : n ≤ 9223372036854775807) (w : World) (htab : TabAt ρ T w) :
    Calls P (ρ.f 173) #[.int .i64 n, .int .i64 10] w fun e w' => e = .returned (.string ⟨(fmtT T n).toArray⟩) ∧ Below w.heap.size w w' := by
  have mixed := L.mixed
  have t2 := L.t2; have a2 := L.a2; have z2 := L.z2; have v2 := L.v2
  have t3 := L.t3; have a3 := L.a3; have z3 := L.z3; have v3 := L.v3
  have t9 := L.t9; have a9 := L.a9; have z9 := L.z9; have v9 := L.v9
  have e246 : ∀ args w, (callFunc (ρ.f 246) args).run P w = .ok (.enter (ρ.f 246) args) w := enters_of L.f246 (by kernel_rfl) rfl
  go_enter L.f173, Body.n173_ntmps ρ
  go_wp2_with (go_at_fn (ρ.f 246); refine (fmt_any { L with } T n h0 h1 _ htab).mono ?_; rintro e w' ⟨rfl, hb⟩)
  go_ret
  exact ⟨rfl, hb⟩
set_option maxRecDepth 100000 in
theorem itoaI_any (L : Lays.n243 P ρ) (T : Nat → Int) (n : Int) (h0 : -9223372036854775808 ≤ n) (h1 : n ≤ 9223372036854775807) (w : World) (htab : TabAt ρ T w) :
    Calls P (ρ.f 243) #[.int .i64 n] w fun e w' => e = .returned (.string ⟨(fmtT T n).toArray⟩) ∧ Below w.heap.size w w' := by
  have mixed := L.mixed
  have t3 := L.t3; have a3 := L.a3; have z3 := L.z3; have v3 := L.v3
  have t9 := L.t9; have a9 := L.a9; have z9 := L.z9; have v9 := L.v9
  have t2 := L.t2; have a2 := L.a2; have z2 := L.z2; have v2 := L.v2
  have e246 : ∀ args w, (callFunc (ρ.f 246) args).run P w = .ok (.enter (ρ.f 246) args) w := enters_of L.f246 (by kernel_rfl) rfl
  go_enter L.f243, Body.n243_ntmps ρ
  go_wp2_with (go_at_fn (ρ.f 246); refine (fmt_any { L with } T n h0 h1 _ htab).mono ?_; rintro e w' ⟨rfl, hb⟩)
  go_ret
  exact ⟨rfl, hb⟩
set_option maxRecDepth 100000 in
theorem itoaT_any (L : Lays.n171 P ρ) (T : Nat → Int) (n : Int) (h0 : -9223372036854775808 ≤ n) (h1 : n ≤ 9223372036854775807) (w : World) (htab : TabAt ρ T w) :
    Calls P (ρ.f 171) #[.int .i64 n] w fun e w' => e = .returned (.string ⟨(fmtT T n).toArray⟩) ∧ Below w.heap.size w w' := by
  have mixed := L.mixed
  have t3 := L.t3; have a3 := L.a3; have z3 := L.z3; have v3 := L.v3
  have t9 := L.t9; have a9 := L.a9; have z9 := L.z9; have v9 := L.v9
  have e243 : ∀ args w, (callFunc (ρ.f 243) args).run P w = .ok (.enter (ρ.f 243) args) w := enters_of L.f243 (by kernel_rfl) rfl
  go_enter L.f171, Body.n171_ntmps ρ
  go_wp2_with (go_at_fn (ρ.f 243); refine (itoaI_any { L with } T n h0 h1 _ htab).mono ?_; rintro e w' ⟨rfl, hb⟩)
  go_ret
  exact ⟨rfl, hb⟩
end Go.Proofs.YtepgoehpjafbhaaGreatDoor
