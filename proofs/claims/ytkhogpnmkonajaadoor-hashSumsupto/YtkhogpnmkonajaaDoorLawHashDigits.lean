/-
  The walk of HashDigits.
-/
import Derived.Test.YtkhogpnmkonajaaDoorFirst
namespace Go.Proofs.YtkhogpnmkonajaaDoor
open Go.RowKit S
theorem dig_lo (v : Nat) (h : v < 10) : (dig v).toNat = 48 + v := by unfold dig; rw [if_pos h, UInt8.toNat_ofNat', Nat.mod_eq_of_lt (by omega)]
theorem dig_hi (v : Nat) (h : ¬ v < 10) (h2 : v < 16) : (dig v).toNat = 87 + v := by unfold dig; rw [if_neg h, UInt8.toNat_ofNat', Nat.mod_eq_of_lt (by omega)]
set_option maxHeartbeats 800000 in
theorem lawValue_dig (v : Nat) (hv : v < 16) (w : World) :
    Calls Tryd.prog 14 #[.int .u8 ((dig v).toNat : Int)] w fun e w' => e = .returned (.int .i64 (v : Int)) ∧ w' = w := by
  by_cases h : v < 10
  · rw [dig_lo v h, Int.natCast_add]
    have d1 : decide ((48 : Int) + (v : Int) ≥ 48) = true := by simp; omega
    have d2 : decide ((48 : Int) + (v : Int) ≤ 57) = true := by simp; omega
    go_enter Tryd.func14, Tryd.ntmps14
    go_wp2
    go_ret
    exact ⟨ret_int (by omega), rfl⟩
  · rw [dig_hi v h hv, Int.natCast_add]
    have d1 : decide ((87 : Int) + (v : Int) ≥ 48) = true := by simp; omega
    have d2 : decide ((87 : Int) + (v : Int) ≤ 57) = false := by simp; omega
    have d3 : decide ((87 : Int) + (v : Int) ≥ 97) = true := by simp; omega
    have d4 : decide ((87 : Int) + (v : Int) ≤ 102) = true := by simp; omega
    go_enter Tryd.func14, Tryd.ntmps14
    go_wp2
    go_ret
    exact ⟨ret_int (by omega), rfl⟩
theorem parse_no (s : ByteArray) (h : ¬ Good s.data.toList) (w : World) : Calls Tryd.prog 15 #[.string s] w fun e w' => e = .returned (.tuple #[.agg (tabv (bv (fun _ => 0)) 32), .int .i64 4]) ∧ Below w.heap.size w w' := by
  refine (parse_any s w).mono ?_
  rintro e w1 ⟨h1 | h1, hb⟩
  · exact absurd h1.1 h
  · exact ⟨h1.2, hb⟩
/-- Half a byte. -/
def nib (h : Nat → UInt8) (k : Nat) : Nat := if k % 2 = 0 then (h (k / 2)).toNat / 16 else (h (k / 2)).toNat % 16
theorem nib_dig (h : Nat → UInt8) (k : Nat) : hexd h k = dig (nib h k) := by unfold hexd nib; split <;> rfl
theorem nib_lt (h : Nat → UInt8) (k : Nat) : nib h k < 16 := by
  have := (h (k / 2)).toNat_lt
  unfold nib; split <;> omega
theorem and15_i64 : ∀ b : Fin 256, bits .and .i64 (b.val : Int) 15 = ((b.val % 16 : Nat) : Int) := by decide +kernel
theorem not_good (s : ByteArray) (p : Nat) (c : UInt8) (hs : s.size = 64) (hp : p < 64) (hc : (dv c).2 = false) : ¬ Good (s.extract 0 p ++ { data := #[c] } ++ s.extract (p + 1) 64).data.toList := fun hg => by
  have h := hg.2 p hp
  have hl : (s.extract 0 p).data.toList.length = p := by rw [str_len, ByteArray.size_extract]; omega
  have e : byteAt (s.extract 0 p ++ { data := #[c] } ++ s.extract (p + 1) 64).data.toList p = c := by
    rw [ByteArray.data_append, Array.toList_append, ByteArray.data_append, Array.toList_append, List.append_assoc, byteAt_append_right _ _ _ (by omega), hl, Nat.sub_self]
    rfl
  rw [e, hc] at h
  cases h
theorem at_nat (z : Int) (s : Nat) (h : 0 < s) (hs : s ≤ 140737488351233 := by omega) : ∃ p : Nat, wrap64 ((IntKind.u64.wrap z).tmod (s : Int)) = (p : Int) ∧ p < s := by
  have hw : 0 ≤ IntKind.u64.wrap z := by rw [IntKind.wrap_u64]; omega
  have h1 : (IntKind.u64.wrap z).tmod (s : Int) = IntKind.u64.wrap z % (s : Int) := Int.tmod_eq_emod_of_nonneg hw
  have h2 := Int.emod_nonneg (IntKind.u64.wrap z) (show (s : Int) ≠ 0 by omega)
  have h3 := Int.emod_lt_of_pos (IntKind.u64.wrap z) (show (0 : Int) < (s : Int) by omega)
  rw [h1]
  generalize IntKind.u64.wrap z % (s : Int) = r at h2 h3
  refine ⟨r.toNat, ?_, by omega⟩
  rw [Int.toNat_of_nonneg h2]
  unfold wrap64; omega
theorem wp_store_part {P : Program} {o : Oper} {a : Act} {w : World} {K : Act → World → Prop} {Q : Exit → Act → World → Prop} (ty : TypeId) (x y : Operand) (ho : o.op = .store ty x y) (hd : o.dst = none)
    (g of : Nat) (h : Nat → Value) (m : Nat) (hx : a.eval x = .pointer (some ⟨g, of, none⟩)) (hy : a.eval y = .agg (tabv h m))
    (t : TypeId) (f : Nat → Value) (M : Nat) (hg : Has w g t f M) (hm : of + m ≤ M) (hi : (P.info? ty).map (·.size) = some m)
    (h1 : ∀ i, i < m → (h i).oneCell' = true) (f' : Nat → Value) (hf : ∀ i, i < M → splice f of h m i = f' i)
    (hk : K a (w.setRow g (tabv f' M))) : o.wp P a w K Q := by
  unfold Oper.wp execOp
  simp only [ho, hx, hy, Instr.storeAt, Instr.sureAddr, Sem.run_bind, Sem.run_pure, Result.andThen_ok, run_storeVar_part w g of t ty f h M m hg hm hi h1]
  rw [tabv_congr _ f' M hf]
  show K (a.put o.dst undef) _
  rw [hd]
  exact hk
attribute [local go_sem ↓] Go.wp_at_zero Go.wp_at_succ
set_option maxHeartbeats 800000 in
theorem hashDigits_num (n : Num) (h : Nat → UInt8) (z : Int) (w : World) (hG : Glob n w) :
    Calls Tryd.prog 5 #[.agg (tabv (bv h) 32), .int .i64 z] w fun e w' => e = .returned (.bool true) ∧ Below w.heap.size w w' := by
  have h0 : Has (w.alloc (.cells (tabv (bv h) 32) 26)) w.heap.size 26 (bv h) 32 := Has.new w 26 (bv h) 32 _ rfl
  have hb : Below w.heap.size w (w.alloc (.cells (tabv (bv h) 32) 26)) := (Below.refl w.heap.size w).alloc (Nat.le_refl _) _
  have H0 := hide h0
  have HB := hide hb
  clear h0 hb
  go_enter Tryd.func5, Tryd.ntmps5
  go_wp2_with fail
  refine (first_any n _ (hG.below HB.out hG.2.2)).mono ?_
  rintro e w1 ⟨rfl, hb1⟩
  have k0 := H0.out.below hb1 H0.out.lt
  have kb := HB.out.trans (hb1.mono HB.out.size)
  clear H0 HB hb1
  go_wp2_with (refine wpList_load_part rfl 26 _ rfl w.heap.size 0 rfl 26 _ 32 32 _ k0 (by omega) Tryd.underlying26 rfl info26 (bv h) (fun i _ => by rw [Nat.zero_add]) ?_)
  refine (hex_any h _).mono ?_
  rintro e w2 ⟨rfl, hb2⟩
  have k1 := k0.below hb2 k0.lt
  have kb1 := kb.trans (hb2.mono kb.size)
  clear k0 kb hb2
  obtain ⟨s, hs⟩ : ∃ s, strOf (hexd h) 64 = s := ⟨_, rfl⟩
  have hs64 : s.size = 64 := by rw [← hs, strOf_size]
  have hsl : s.data.toList = (List.range 64).map (hexd h) := by rw [← hs, strOf_list]
  rw [hs]
  have HS := hide hsl
  clear hs hsl
  have hd0 : ((s.size : Int) != 64) = false := by rw [hs64]; rfl
  go_wp2
  go_loopw [6] (fun i wr => ∃ k : Nat, k ≤ 64 ∧ i = .int .i64 k ∧ Has wr w.heap.size 26 (bv h) 32 ∧ Below w.heap.size w wr) (fun i _ => 64 - (intOf i).toNat)
  case atStart => exact ⟨0, by omega, rfl, k1, kb1⟩
  case round =>
    clear k1 kb1
    obtain ⟨k, hk, rfl, k1, kb1⟩ := hrel
    by_cases hlt : k < 64
    · have hd : decide ((k : Int) < 64) = true := by simp; omega
      have hx : ∀ w' : World, (Instr.index 9 (.string s) (.int .i64 (k : Int))).run Tryd.prog w' = .ok (.int .u8 ((dig (nib h k)).toNat : Int)) w' := fun w' => run_index_str w' s .i64 k _ (by
        rw [str_get s k (by omega), HS.out]
        unfold byteAt
        rw [List.getD_eq_getElem?_getD, List.getElem?_map, List.getElem?_range hlt, ← nib_dig]
        rfl)
      have hc := k1.cell (k / 2) (by omega)
      simp only [bv] at hc
      have hbt := (h (k / 2)).toNat_lt
      go_wp2_with fail
      refine (lawValue_dig (nib h k) (nib_lt h k) _).mono ?_
      rintro e w3 ⟨rfl, rfl⟩
      by_cases hp : k % 2 = 1
      · have hd2 : ((k : Int) % 2 == 1) = true := by rw [beq_iff_eq]; omega
        have ha := and15_i64 ⟨(h (k / 2)).toNat, hbt⟩
        have hn : nib h k = (h (k / 2)).toNat % 16 := by unfold nib; rw [if_neg (by omega)]
        rw [hn]
        have HP := hide hp
        have HN := hide hn
        clear hp hn
        go_wp2
        go_roundw
        case rel => exact ⟨k + 1, by omega, by go_num, k1, kb1⟩
        case measure => simp [intOf]; omega
      · have hd2 : ((k : Int) % 2 == 1) = false := by rw [beq_eq_false_iff_ne]; omega
        have hn : nib h k = (h (k / 2)).toNat / 16 := by unfold nib; rw [if_pos (by omega)]
        rw [hn]
        have HP := hide hp
        have HN := hide hn
        clear hp hn
        go_wp2
        go_roundw
        case rel => exact ⟨k + 1, by omega, by go_num, k1, kb1⟩
        case measure => simp [intOf]; omega
    · have hk64 : k = 64 := by omega
      subst hk64
      obtain ⟨p, hp, hpl⟩ := at_nat z 64 (by omega)
      have H1 : ¬ Good (s ++ { data := #[48] }).data.toList := fun hg => by
        have := hg.1
        rw [str_len, ByteArray.size_append, hs64] at this
        exact absurd this (by decide)
      have H2 : ¬ Good (s.extract 1 64).data.toList := fun hg => by
        have := hg.1
        rw [str_len, ByteArray.size_extract, hs64] at this
        exact absurd this (by decide)
      have K1 := hide H1
      have K2 := hide H2
      clear H1 H2
      go_wp2_with fail
      refine (parse_no _ K1.out _).mono ?_
      rintro e w3 ⟨rfl, hb3⟩
      have kb2 := kb1.trans (hb3.mono kb1.size)
      clear k1 kb1 hb3
      have hn3 := Has.new w3 26 (fun _ => .int .u8 0) 32 _ rfl
      have HN3 := hide hn3
      clear hn3
      go_wp2_with (refine wpList_store_part rfl 26 _ _ rfl rfl w3.heap.size 0 (bv (fun _ => 0)) 32 rfl rfl 26 _ 32 HN3.out (by omega) info26 (fun _ _ => rfl) (bv (fun _ => 0)) (fun i hi => by unfold splice; rw [if_pos (by omega)]; rfl) ?_)
      have mb3 : Below w3.heap.size w3 ((w3.alloc (.cells (tabv (fun _ => .int .u8 0) 32) 26)).setRow w3.heap.size (tabv (bv (fun _ => 0)) 32)) := below_setRow ((Below.refl _ _).alloc (Nat.le_refl _) _) (Nat.le_refl _) _
      refine (parse_no _ K2.out _).mono ?_
      rintro e w4 ⟨rfl, hb4⟩
      have mb4 := mb3.trans (Below.mono hb4 mb3.size)
      have kb3 := kb2.trans (mb4.mono kb2.size)
      clear HN3 mb3 hb4 mb4 kb2
      have hn3 := Has.new w4 26 (fun _ => .int .u8 0) 32 _ rfl
      have HN3 := hide hn3
      clear hn3
      go_wp2_with (refine wpList_store_part rfl 26 _ _ rfl rfl w4.heap.size 0 (bv (fun _ => 0)) 32 rfl rfl 26 _ 32 HN3.out (by omega) info26 (fun _ _ => rfl) (bv (fun _ => 0)) (fun i hi => by unfold splice; rw [if_pos (by omega)]; rfl) ?_)
      have mb3 : Below w4.heap.size w4 ((w4.alloc (.cells (tabv (fun _ => .int .u8 0) 32) 26)).setRow w4.heap.size (tabv (bv (fun _ => 0)) 32)) := below_setRow ((Below.refl _ _).alloc (Nat.le_refl _) _) (Nat.le_refl _) _
      generalize hW : World.setRow (World.alloc w4 _) _ _ = w5
      have kb4 : Below w.heap.size w w5 := by rw [← hW]; exact kb3.trans (mb3.mono kb3.size)
      clear hW HN3 mb3 kb3
      rw [show ((64 : Nat) : Int) = 64 from rfl] at hp
      rw [hp]
      clear hp
      have hp0 : (0 : Int) ≤ (p : Int) := by omega
      have hp1 : (p : Int) ≤ 64 := by omega
      have hp2 : (p : Int) + 1 ≤ 64 := by omega
      have hwp : IntKind.i64.wrap ((p : Int) + 1) = (p : Int) + 1 := by rw [IntKind.wrap_i64]; omega
      have KAa := not_good s p 65 hs64 hpl rfl
      have KAb := not_good s p 103 hs64 hpl rfl
      obtain ⟨Xa, hXa⟩ : ∃ X, s.extract 0 p ++ { data := #[65] } ++ s.extract (p + 1) 64 = X := ⟨_, rfl⟩
      obtain ⟨Xb, hXb⟩ : ∃ X, s.extract 0 p ++ { data := #[103] } ++ s.extract (p + 1) 64 = X := ⟨_, rfl⟩
      rw [hXa] at KAa
      rw [hXb] at KAb
      have KXa := hide KAa
      have KXb := hide KAb
      clear KAa KAb
      have kb := kb4
      clear kb4
      refine wp_region_noPanic ?_
      refine wp_region_held_drew (S := fun wx => Below w.heap.size w wx) (by kernel_rfl) (kb.drew) (fun hHeld => ?_)
      refine takeH 0 (some 67) (.string s) rfl rfl (by kernel_rfl) (by kernel_rfl) (by kernel_rfl) (fun _ _ _ h => h) (by rfl) (fun w hw => by first | (go_simp; done) | (go_simp; omega) | (go_simp; go_num; done) | rfl) hHeld ?_
      simp only [Act.put, List.setIfInBounds_toArray, List.set_cons_zero, List.set_cons_succ]
      refine takeH 1 (some 68) (.int .i64 p) rfl rfl (by kernel_rfl) (by kernel_rfl) (by kernel_rfl) (fun _ _ _ h => h) (by rfl) (fun w hw => by first | (go_simp; done) | (go_simp; omega) | (go_simp; go_num; done) | rfl) hHeld ?_
      simp only [Act.put, List.setIfInBounds_toArray, List.set_cons_zero, List.set_cons_succ]
      refine takeH 2 (some 69) (.string (s.extract 0 p)) rfl rfl (by kernel_rfl) (by kernel_rfl) (by kernel_rfl) (fun _ _ _ h => h) (by rfl) (fun w hw => by first | (go_simp; done) | (go_simp; omega) | (go_simp; go_num; done) | rfl) hHeld ?_
      simp only [Act.put, List.setIfInBounds_toArray, List.set_cons_zero, List.set_cons_succ]
      refine takeH 3 (some 70) (.string (s.extract 0 p ++ { data := #[65] })) rfl rfl (by kernel_rfl) (by kernel_rfl) (by kernel_rfl) (fun _ _ _ h => h) (by rfl) (fun w hw => by first | (go_simp; done) | (go_simp; omega) | (go_simp; go_num; done) | rfl) hHeld ?_
      simp only [Act.put, List.setIfInBounds_toArray, List.set_cons_zero, List.set_cons_succ]
      refine takeH 4 (some 71) (.string s) rfl rfl (by kernel_rfl) (by kernel_rfl) (by kernel_rfl) (fun _ _ _ h => h) (by rfl) (fun w hw => by first | (go_simp; done) | (go_simp; omega) | (go_simp; go_num; done) | rfl) hHeld ?_
      simp only [Act.put, List.setIfInBounds_toArray, List.set_cons_zero, List.set_cons_succ]
      refine takeH 5 (some 72) (.int .i64 p) rfl rfl (by kernel_rfl) (by kernel_rfl) (by kernel_rfl) (fun _ _ _ h => h) (by rfl) (fun w hw => by first | (go_simp; done) | (go_simp; omega) | (go_simp; go_num; done) | rfl) hHeld ?_
      simp only [Act.put, List.setIfInBounds_toArray, List.set_cons_zero, List.set_cons_succ]
      refine takeH 6 (some 73) (.int .i64 (p + 1)) rfl rfl (by kernel_rfl) (by kernel_rfl) (by kernel_rfl) (fun _ _ _ h => h) (by rfl) (fun w hw => by first | (go_simp; done) | (go_simp; omega) | (go_simp; go_num; done) | rfl) hHeld ?_
      simp only [Act.put, List.setIfInBounds_toArray, List.set_cons_zero, List.set_cons_succ]
      refine takeH 7 (some 74) (.string (s.extract (p + 1) 64)) rfl rfl (by kernel_rfl) (by kernel_rfl) (by kernel_rfl) (fun _ _ _ h => h) (by rfl) (fun w hw => by first | (go_simp; done) | (go_simp; omega) | (go_simp; go_num; done) | rfl) hHeld ?_
      simp only [Act.put, List.setIfInBounds_toArray, List.set_cons_zero, List.set_cons_succ]
      refine takeH 8 (some 75) (.string Xa) rfl rfl (by kernel_rfl) (by kernel_rfl) (by kernel_rfl) (fun _ _ _ h => h) (by rfl) (fun w hw => by first | (go_simp; done) | (go_simp; omega) | (go_simp; go_num; done) | rfl) hHeld ?_
      simp only [Act.put, List.setIfInBounds_toArray, List.set_cons_zero, List.set_cons_succ]
      refine wpAnyH_ready (rs := [9, 13]) (by kernel_rfl) (by simp) (AllReadyH.cons rfl (fun K hK => ?_) (AllReadyH.cons rfl (fun K hK => ?_) AllReadyH.nil))
      · rw [if_pos (by rfl)]
        go_simp
        refine (parse_no Xa KXa.out _).mono ?_
        rintro e v6 ⟨rfl, hb6⟩
        try go_wp2_with fail
        refine hK.out _ _ (Below.trans hHeld (Below.mono hb6 (Below.size hHeld))) (fun hHeld => ?_)
        clear hK K
        refine takeH 10 (some 66) (.tuple #[.agg (tabv (bv (fun _ => 0)) 32), .int .i64 4]) rfl rfl (by kernel_rfl) (by kernel_rfl) (by kernel_rfl) (fun _ _ _ h => h) (by rfl) (fun w hw => by first | (go_simp; done) | (go_simp; omega) | (go_simp; go_num; done) | rfl) hHeld ?_
        simp only [Act.put, List.setIfInBounds_toArray, List.set_cons_zero, List.set_cons_succ]
        refine takeH 11 (some 77) (.agg (tabv (bv (fun _ => 0)) 32)) rfl rfl (by kernel_rfl) (by kernel_rfl) (by kernel_rfl) (fun _ _ _ h => h) (by rfl) (fun w hw => by first | (go_simp; done) | (go_simp; omega) | (go_simp; go_num; done) | rfl) hHeld ?_
        simp only [Act.put, List.setIfInBounds_toArray, List.set_cons_zero, List.set_cons_succ]
        refine takeH 12 (some 78) (.int .i64 4) rfl rfl (by kernel_rfl) (by kernel_rfl) (by kernel_rfl) (fun _ _ _ h => h) (by rfl) (fun w hw => by first | (go_simp; done) | (go_simp; omega) | (go_simp; go_num; done) | rfl) hHeld ?_
        simp only [Act.put, List.setIfInBounds_toArray, List.set_cons_zero, List.set_cons_succ]
        refine wpAnyH_ready (rs := [13]) (by kernel_rfl) (by simp) (AllReadyH.cons rfl (fun K hK => ?_) AllReadyH.nil)
        rw [if_pos (by rfl)]
        go_simp
        refine hK.out _ _ (Below.alloc hHeld (Below.size hHeld) _) (fun hHeld => ?_)
        clear hK K
        have hn3 := Has.new v6 26 (fun _ => .int .u8 0) 32 _ rfl
        have hle : w.heap.size ≤ v6.heap.size := Nat.le_trans kb.size (Below.size (w := w5.drew) hb6)
        refine wpAnyH_ready (rs := [14]) (by kernel_rfl) (by simp) (AllReadyH.cons rfl (fun K hK => ?_) AllReadyH.nil)
        rw [if_pos (by rfl)]
        refine wp_store_part 26 _ _ rfl rfl v6.heap.size 0 (bv (fun _ => 0)) 32 rfl rfl 26 _ 32 hn3 (by omega) info26 (fun _ _ => rfl) (bv (fun _ => 0)) (fun i hi => by unfold splice; rw [if_pos (by omega)]; rfl) ?_
        refine hK.out _ _ (below_setRow hHeld hle _) (fun hHeld => ?_)
        clear hK K
        refine takeH 15 (some 14) (.int .i64 4) rfl rfl (by kernel_rfl) (by kernel_rfl) (by kernel_rfl) (fun _ _ _ h => h) (by rfl) (fun w hw => by first | (go_simp; done) | (go_simp; omega) | (go_simp; go_num; done) | rfl) hHeld ?_
        simp only [Act.put, List.setIfInBounds_toArray, List.set_cons_zero, List.set_cons_succ]
        refine ⟨by kernel_rfl, ?_⟩
        refine NoPanic.normal ?_
        generalize hW : World.setRow _ _ _ = wz at hHeld ⊢
        clear hW
        go_wp2
        have kb : Below w.heap.size w wz := hHeld
        clear hHeld
        refine wp_region_noPanic ?_
        refine wp_region_held_drew (S := fun wx => Below w.heap.size w wx) (by kernel_rfl) (kb.drew) (fun hHeld => ?_)
        refine takeH 0 (some 80) (.string s) rfl rfl (by kernel_rfl) (by kernel_rfl) (by kernel_rfl) (fun _ _ _ h => h) (by rfl) (fun w hw => by first | (go_simp; done) | (go_simp; omega) | (go_simp; go_num; done) | rfl) hHeld ?_
        simp only [Act.put, List.setIfInBounds_toArray, List.set_cons_zero, List.set_cons_succ]
        refine takeH 1 (some 81) (.int .i64 p) rfl rfl (by kernel_rfl) (by kernel_rfl) (by kernel_rfl) (fun _ _ _ h => h) (by rfl) (fun w hw => by first | (go_simp; done) | (go_simp; omega) | (go_simp; go_num; done) | rfl) hHeld ?_
        simp only [Act.put, List.setIfInBounds_toArray, List.set_cons_zero, List.set_cons_succ]
        refine takeH 2 (some 82) (.string (s.extract 0 p)) rfl rfl (by kernel_rfl) (by kernel_rfl) (by kernel_rfl) (fun _ _ _ h => h) (by rfl) (fun w hw => by first | (go_simp; done) | (go_simp; omega) | (go_simp; go_num; done) | rfl) hHeld ?_
        simp only [Act.put, List.setIfInBounds_toArray, List.set_cons_zero, List.set_cons_succ]
        refine takeH 3 (some 83) (.string (s.extract 0 p ++ { data := #[103] })) rfl rfl (by kernel_rfl) (by kernel_rfl) (by kernel_rfl) (fun _ _ _ h => h) (by rfl) (fun w hw => by first | (go_simp; done) | (go_simp; omega) | (go_simp; go_num; done) | rfl) hHeld ?_
        simp only [Act.put, List.setIfInBounds_toArray, List.set_cons_zero, List.set_cons_succ]
        refine takeH 4 (some 84) (.string s) rfl rfl (by kernel_rfl) (by kernel_rfl) (by kernel_rfl) (fun _ _ _ h => h) (by rfl) (fun w hw => by first | (go_simp; done) | (go_simp; omega) | (go_simp; go_num; done) | rfl) hHeld ?_
        simp only [Act.put, List.setIfInBounds_toArray, List.set_cons_zero, List.set_cons_succ]
        refine takeH 5 (some 85) (.int .i64 p) rfl rfl (by kernel_rfl) (by kernel_rfl) (by kernel_rfl) (fun _ _ _ h => h) (by rfl) (fun w hw => by first | (go_simp; done) | (go_simp; omega) | (go_simp; go_num; done) | rfl) hHeld ?_
        simp only [Act.put, List.setIfInBounds_toArray, List.set_cons_zero, List.set_cons_succ]
        refine takeH 6 (some 86) (.int .i64 (p + 1)) rfl rfl (by kernel_rfl) (by kernel_rfl) (by kernel_rfl) (fun _ _ _ h => h) (by rfl) (fun w hw => by first | (go_simp; done) | (go_simp; omega) | (go_simp; go_num; done) | rfl) hHeld ?_
        simp only [Act.put, List.setIfInBounds_toArray, List.set_cons_zero, List.set_cons_succ]
        refine takeH 7 (some 87) (.string (s.extract (p + 1) 64)) rfl rfl (by kernel_rfl) (by kernel_rfl) (by kernel_rfl) (fun _ _ _ h => h) (by rfl) (fun w hw => by first | (go_simp; done) | (go_simp; omega) | (go_simp; go_num; done) | rfl) hHeld ?_
        simp only [Act.put, List.setIfInBounds_toArray, List.set_cons_zero, List.set_cons_succ]
        refine takeH 8 (some 88) (.string Xb) rfl rfl (by kernel_rfl) (by kernel_rfl) (by kernel_rfl) (fun _ _ _ h => h) (by rfl) (fun w hw => by first | (go_simp; done) | (go_simp; omega) | (go_simp; go_num; done) | rfl) hHeld ?_
        simp only [Act.put, List.setIfInBounds_toArray, List.set_cons_zero, List.set_cons_succ]
        refine wpAnyH_ready (rs := [9, 13]) (by kernel_rfl) (by simp) (AllReadyH.cons rfl (fun K hK => ?_) (AllReadyH.cons rfl (fun K hK => ?_) AllReadyH.nil))
        · rw [if_pos (by rfl)]
          go_simp
          refine (parse_no Xb KXb.out _).mono ?_
          rintro e v8 ⟨rfl, hb6⟩
          try go_wp2_with fail
          refine hK.out _ _ (Below.trans hHeld (Below.mono hb6 (Below.size hHeld))) (fun hHeld => ?_)
          clear hK K
          refine takeH 10 (some 79) (.tuple #[.agg (tabv (bv (fun _ => 0)) 32), .int .i64 4]) rfl rfl (by kernel_rfl) (by kernel_rfl) (by kernel_rfl) (fun _ _ _ h => h) (by rfl) (fun w hw => by first | (go_simp; done) | (go_simp; omega) | (go_simp; go_num; done) | rfl) hHeld ?_
          simp only [Act.put, List.setIfInBounds_toArray, List.set_cons_zero, List.set_cons_succ]
          refine takeH 11 (some 90) (.agg (tabv (bv (fun _ => 0)) 32)) rfl rfl (by kernel_rfl) (by kernel_rfl) (by kernel_rfl) (fun _ _ _ h => h) (by rfl) (fun w hw => by first | (go_simp; done) | (go_simp; omega) | (go_simp; go_num; done) | rfl) hHeld ?_
          simp only [Act.put, List.setIfInBounds_toArray, List.set_cons_zero, List.set_cons_succ]
          refine takeH 12 (some 91) (.int .i64 4) rfl rfl (by kernel_rfl) (by kernel_rfl) (by kernel_rfl) (fun _ _ _ h => h) (by rfl) (fun w hw => by first | (go_simp; done) | (go_simp; omega) | (go_simp; go_num; done) | rfl) hHeld ?_
          simp only [Act.put, List.setIfInBounds_toArray, List.set_cons_zero, List.set_cons_succ]
          refine wpAnyH_ready (rs := [13]) (by kernel_rfl) (by simp) (AllReadyH.cons rfl (fun K hK => ?_) AllReadyH.nil)
          rw [if_pos (by rfl)]
          go_simp
          refine hK.out _ _ (Below.alloc hHeld (Below.size hHeld) _) (fun hHeld => ?_)
          clear hK K
          have hn3 := Has.new v8 26 (fun _ => .int .u8 0) 32 _ rfl
          have hle : w.heap.size ≤ v8.heap.size := Nat.le_trans kb.size (Below.size (w := wz.drew) hb6)
          refine wpAnyH_ready (rs := [14]) (by kernel_rfl) (by simp) (AllReadyH.cons rfl (fun K hK => ?_) AllReadyH.nil)
          rw [if_pos (by rfl)]
          refine wp_store_part 26 _ _ rfl rfl v8.heap.size 0 (bv (fun _ => 0)) 32 rfl rfl 26 _ 32 hn3 (by omega) info26 (fun _ _ => rfl) (bv (fun _ => 0)) (fun i hi => by unfold splice; rw [if_pos (by omega)]; rfl) ?_
          refine hK.out _ _ (below_setRow hHeld hle _) (fun hHeld => ?_)
          clear hK K
          refine takeH 15 (some 16) (.int .i64 4) rfl rfl (by kernel_rfl) (by kernel_rfl) (by kernel_rfl) (fun _ _ _ h => h) (by rfl) (fun w hw => by first | (go_simp; done) | (go_simp; omega) | (go_simp; go_num; done) | rfl) hHeld ?_
          simp only [Act.put, List.setIfInBounds_toArray, List.set_cons_zero, List.set_cons_succ]
          refine ⟨by kernel_rfl, ?_⟩
          refine NoPanic.normal ?_
          go_wp2
          go_ret
          exact ⟨rfl, hHeld⟩
        · rw [if_pos (by rfl)]
          go_simp
          refine hK.out _ _ (Below.drew (Below.alloc kb kb.size _)) (fun hHeld => ?_)
          clear hK K
          have hn3 := (Has.new wz 26 (fun _ => .int .u8 0) 32 _ rfl).drew
          refine wpAnyH_ready (rs := [9]) (by kernel_rfl) (by simp) (AllReadyH.cons rfl (fun K hK => ?_) AllReadyH.nil)
          rw [if_pos (by rfl)]
          go_simp
          refine (parse_no Xb KXb.out _).mono ?_
          rintro e v8 ⟨rfl, hb6⟩
          try go_wp2_with fail
          refine hK.out _ _ (Below.trans hHeld (Below.mono hb6 (Below.size hHeld))) (fun hHeld => ?_)
          clear hK K
          have hn4 := hn3.below hb6 hn3.lt
          have hle := kb.size
          refine takeH 10 (some 79) (.tuple #[.agg (tabv (bv (fun _ => 0)) 32), .int .i64 4]) rfl rfl (by kernel_rfl) (by kernel_rfl) (by kernel_rfl) (fun _ _ _ h => h) (by rfl) (fun w hw => by first | (go_simp; done) | (go_simp; omega) | (go_simp; go_num; done) | rfl) hHeld ?_
          simp only [Act.put, List.setIfInBounds_toArray, List.set_cons_zero, List.set_cons_succ]
          refine takeH 11 (some 90) (.agg (tabv (bv (fun _ => 0)) 32)) rfl rfl (by kernel_rfl) (by kernel_rfl) (by kernel_rfl) (fun _ _ _ h => h) (by rfl) (fun w hw => by first | (go_simp; done) | (go_simp; omega) | (go_simp; go_num; done) | rfl) hHeld ?_
          simp only [Act.put, List.setIfInBounds_toArray, List.set_cons_zero, List.set_cons_succ]
          refine takeH 12 (some 91) (.int .i64 4) rfl rfl (by kernel_rfl) (by kernel_rfl) (by kernel_rfl) (fun _ _ _ h => h) (by rfl) (fun w hw => by first | (go_simp; done) | (go_simp; omega) | (go_simp; go_num; done) | rfl) hHeld ?_
          simp only [Act.put, List.setIfInBounds_toArray, List.set_cons_zero, List.set_cons_succ]
          refine wpAnyH_ready (rs := [14]) (by kernel_rfl) (by simp) (AllReadyH.cons rfl (fun K hK => ?_) AllReadyH.nil)
          rw [if_pos (by rfl)]
          refine wp_store_part 26 _ _ rfl rfl wz.heap.size 0 (bv (fun _ => 0)) 32 rfl rfl 26 _ 32 hn4 (by omega) info26 (fun _ _ => rfl) (bv (fun _ => 0)) (fun i hi => by unfold splice; rw [if_pos (by omega)]; rfl) ?_
          refine hK.out _ _ (below_setRow hHeld hle _) (fun hHeld => ?_)
          clear hK K
          refine takeH 15 (some 16) (.int .i64 4) rfl rfl (by kernel_rfl) (by kernel_rfl) (by kernel_rfl) (fun _ _ _ h => h) (by rfl) (fun w hw => by first | (go_simp; done) | (go_simp; omega) | (go_simp; go_num; done) | rfl) hHeld ?_
          simp only [Act.put, List.setIfInBounds_toArray, List.set_cons_zero, List.set_cons_succ]
          refine ⟨by kernel_rfl, ?_⟩
          refine NoPanic.normal ?_
          go_wp2
          go_ret
          exact ⟨rfl, hHeld⟩
      · rw [if_pos (by rfl)]
        go_simp
        refine hK.out _ _ (Below.drew (Below.alloc kb kb.size _)) (fun hHeld => ?_)
        clear hK K
        have hn3 := (Has.new w5 26 (fun _ => .int .u8 0) 32 _ rfl).drew
        refine wpAnyH_ready (rs := [9]) (by kernel_rfl) (by simp) (AllReadyH.cons rfl (fun K hK => ?_) AllReadyH.nil)
        rw [if_pos (by rfl)]
        go_simp
        refine (parse_no Xa KXa.out _).mono ?_
        rintro e v6 ⟨rfl, hb6⟩
        try go_wp2_with fail
        refine hK.out _ _ (Below.trans hHeld (Below.mono hb6 (Below.size hHeld))) (fun hHeld => ?_)
        clear hK K
        have hn4 := hn3.below hb6 hn3.lt
        have hle := kb.size
        refine takeH 10 (some 66) (.tuple #[.agg (tabv (bv (fun _ => 0)) 32), .int .i64 4]) rfl rfl (by kernel_rfl) (by kernel_rfl) (by kernel_rfl) (fun _ _ _ h => h) (by rfl) (fun w hw => by first | (go_simp; done) | (go_simp; omega) | (go_simp; go_num; done) | rfl) hHeld ?_
        simp only [Act.put, List.setIfInBounds_toArray, List.set_cons_zero, List.set_cons_succ]
        refine takeH 11 (some 77) (.agg (tabv (bv (fun _ => 0)) 32)) rfl rfl (by kernel_rfl) (by kernel_rfl) (by kernel_rfl) (fun _ _ _ h => h) (by rfl) (fun w hw => by first | (go_simp; done) | (go_simp; omega) | (go_simp; go_num; done) | rfl) hHeld ?_
        simp only [Act.put, List.setIfInBounds_toArray, List.set_cons_zero, List.set_cons_succ]
        refine takeH 12 (some 78) (.int .i64 4) rfl rfl (by kernel_rfl) (by kernel_rfl) (by kernel_rfl) (fun _ _ _ h => h) (by rfl) (fun w hw => by first | (go_simp; done) | (go_simp; omega) | (go_simp; go_num; done) | rfl) hHeld ?_
        simp only [Act.put, List.setIfInBounds_toArray, List.set_cons_zero, List.set_cons_succ]
        refine wpAnyH_ready (rs := [14]) (by kernel_rfl) (by simp) (AllReadyH.cons rfl (fun K hK => ?_) AllReadyH.nil)
        rw [if_pos (by rfl)]
        refine wp_store_part 26 _ _ rfl rfl w5.heap.size 0 (bv (fun _ => 0)) 32 rfl rfl 26 _ 32 hn4 (by omega) info26 (fun _ _ => rfl) (bv (fun _ => 0)) (fun i hi => by unfold splice; rw [if_pos (by omega)]; rfl) ?_
        refine hK.out _ _ (below_setRow hHeld hle _) (fun hHeld => ?_)
        clear hK K
        refine takeH 15 (some 14) (.int .i64 4) rfl rfl (by kernel_rfl) (by kernel_rfl) (by kernel_rfl) (fun _ _ _ h => h) (by rfl) (fun w hw => by first | (go_simp; done) | (go_simp; omega) | (go_simp; go_num; done) | rfl) hHeld ?_
        simp only [Act.put, List.setIfInBounds_toArray, List.set_cons_zero, List.set_cons_succ]
        refine ⟨by kernel_rfl, ?_⟩
        refine NoPanic.normal ?_
        generalize hW : World.setRow _ _ _ = wz at hHeld ⊢
        clear hW
        go_wp2
        have kb : Below w.heap.size w wz := hHeld
        clear hHeld
        refine wp_region_noPanic ?_
        refine wp_region_held_drew (S := fun wx => Below w.heap.size w wx) (by kernel_rfl) (kb.drew) (fun hHeld => ?_)
        refine takeH 0 (some 80) (.string s) rfl rfl (by kernel_rfl) (by kernel_rfl) (by kernel_rfl) (fun _ _ _ h => h) (by rfl) (fun w hw => by first | (go_simp; done) | (go_simp; omega) | (go_simp; go_num; done) | rfl) hHeld ?_
        simp only [Act.put, List.setIfInBounds_toArray, List.set_cons_zero, List.set_cons_succ]
        refine takeH 1 (some 81) (.int .i64 p) rfl rfl (by kernel_rfl) (by kernel_rfl) (by kernel_rfl) (fun _ _ _ h => h) (by rfl) (fun w hw => by first | (go_simp; done) | (go_simp; omega) | (go_simp; go_num; done) | rfl) hHeld ?_
        simp only [Act.put, List.setIfInBounds_toArray, List.set_cons_zero, List.set_cons_succ]
        refine takeH 2 (some 82) (.string (s.extract 0 p)) rfl rfl (by kernel_rfl) (by kernel_rfl) (by kernel_rfl) (fun _ _ _ h => h) (by rfl) (fun w hw => by first | (go_simp; done) | (go_simp; omega) | (go_simp; go_num; done) | rfl) hHeld ?_
        simp only [Act.put, List.setIfInBounds_toArray, List.set_cons_zero, List.set_cons_succ]
        refine takeH 3 (some 83) (.string (s.extract 0 p ++ { data := #[103] })) rfl rfl (by kernel_rfl) (by kernel_rfl) (by kernel_rfl) (fun _ _ _ h => h) (by rfl) (fun w hw => by first | (go_simp; done) | (go_simp; omega) | (go_simp; go_num; done) | rfl) hHeld ?_
        simp only [Act.put, List.setIfInBounds_toArray, List.set_cons_zero, List.set_cons_succ]
        refine takeH 4 (some 84) (.string s) rfl rfl (by kernel_rfl) (by kernel_rfl) (by kernel_rfl) (fun _ _ _ h => h) (by rfl) (fun w hw => by first | (go_simp; done) | (go_simp; omega) | (go_simp; go_num; done) | rfl) hHeld ?_
        simp only [Act.put, List.setIfInBounds_toArray, List.set_cons_zero, List.set_cons_succ]
        refine takeH 5 (some 85) (.int .i64 p) rfl rfl (by kernel_rfl) (by kernel_rfl) (by kernel_rfl) (fun _ _ _ h => h) (by rfl) (fun w hw => by first | (go_simp; done) | (go_simp; omega) | (go_simp; go_num; done) | rfl) hHeld ?_
        simp only [Act.put, List.setIfInBounds_toArray, List.set_cons_zero, List.set_cons_succ]
        refine takeH 6 (some 86) (.int .i64 (p + 1)) rfl rfl (by kernel_rfl) (by kernel_rfl) (by kernel_rfl) (fun _ _ _ h => h) (by rfl) (fun w hw => by first | (go_simp; done) | (go_simp; omega) | (go_simp; go_num; done) | rfl) hHeld ?_
        simp only [Act.put, List.setIfInBounds_toArray, List.set_cons_zero, List.set_cons_succ]
        refine takeH 7 (some 87) (.string (s.extract (p + 1) 64)) rfl rfl (by kernel_rfl) (by kernel_rfl) (by kernel_rfl) (fun _ _ _ h => h) (by rfl) (fun w hw => by first | (go_simp; done) | (go_simp; omega) | (go_simp; go_num; done) | rfl) hHeld ?_
        simp only [Act.put, List.setIfInBounds_toArray, List.set_cons_zero, List.set_cons_succ]
        refine takeH 8 (some 88) (.string Xb) rfl rfl (by kernel_rfl) (by kernel_rfl) (by kernel_rfl) (fun _ _ _ h => h) (by rfl) (fun w hw => by first | (go_simp; done) | (go_simp; omega) | (go_simp; go_num; done) | rfl) hHeld ?_
        simp only [Act.put, List.setIfInBounds_toArray, List.set_cons_zero, List.set_cons_succ]
        refine wpAnyH_ready (rs := [9, 13]) (by kernel_rfl) (by simp) (AllReadyH.cons rfl (fun K hK => ?_) (AllReadyH.cons rfl (fun K hK => ?_) AllReadyH.nil))
        · rw [if_pos (by rfl)]
          go_simp
          refine (parse_no Xb KXb.out _).mono ?_
          rintro e v8 ⟨rfl, hb6⟩
          try go_wp2_with fail
          refine hK.out _ _ (Below.trans hHeld (Below.mono hb6 (Below.size hHeld))) (fun hHeld => ?_)
          clear hK K
          refine takeH 10 (some 79) (.tuple #[.agg (tabv (bv (fun _ => 0)) 32), .int .i64 4]) rfl rfl (by kernel_rfl) (by kernel_rfl) (by kernel_rfl) (fun _ _ _ h => h) (by rfl) (fun w hw => by first | (go_simp; done) | (go_simp; omega) | (go_simp; go_num; done) | rfl) hHeld ?_
          simp only [Act.put, List.setIfInBounds_toArray, List.set_cons_zero, List.set_cons_succ]
          refine takeH 11 (some 90) (.agg (tabv (bv (fun _ => 0)) 32)) rfl rfl (by kernel_rfl) (by kernel_rfl) (by kernel_rfl) (fun _ _ _ h => h) (by rfl) (fun w hw => by first | (go_simp; done) | (go_simp; omega) | (go_simp; go_num; done) | rfl) hHeld ?_
          simp only [Act.put, List.setIfInBounds_toArray, List.set_cons_zero, List.set_cons_succ]
          refine takeH 12 (some 91) (.int .i64 4) rfl rfl (by kernel_rfl) (by kernel_rfl) (by kernel_rfl) (fun _ _ _ h => h) (by rfl) (fun w hw => by first | (go_simp; done) | (go_simp; omega) | (go_simp; go_num; done) | rfl) hHeld ?_
          simp only [Act.put, List.setIfInBounds_toArray, List.set_cons_zero, List.set_cons_succ]
          refine wpAnyH_ready (rs := [13]) (by kernel_rfl) (by simp) (AllReadyH.cons rfl (fun K hK => ?_) AllReadyH.nil)
          rw [if_pos (by rfl)]
          go_simp
          refine hK.out _ _ (Below.alloc hHeld (Below.size hHeld) _) (fun hHeld => ?_)
          clear hK K
          have hn3 := Has.new v8 26 (fun _ => .int .u8 0) 32 _ rfl
          have hle : w.heap.size ≤ v8.heap.size := Nat.le_trans kb.size (Below.size (w := wz.drew) hb6)
          refine wpAnyH_ready (rs := [14]) (by kernel_rfl) (by simp) (AllReadyH.cons rfl (fun K hK => ?_) AllReadyH.nil)
          rw [if_pos (by rfl)]
          refine wp_store_part 26 _ _ rfl rfl v8.heap.size 0 (bv (fun _ => 0)) 32 rfl rfl 26 _ 32 hn3 (by omega) info26 (fun _ _ => rfl) (bv (fun _ => 0)) (fun i hi => by unfold splice; rw [if_pos (by omega)]; rfl) ?_
          refine hK.out _ _ (below_setRow hHeld hle _) (fun hHeld => ?_)
          clear hK K
          refine takeH 15 (some 16) (.int .i64 4) rfl rfl (by kernel_rfl) (by kernel_rfl) (by kernel_rfl) (fun _ _ _ h => h) (by rfl) (fun w hw => by first | (go_simp; done) | (go_simp; omega) | (go_simp; go_num; done) | rfl) hHeld ?_
          simp only [Act.put, List.setIfInBounds_toArray, List.set_cons_zero, List.set_cons_succ]
          refine ⟨by kernel_rfl, ?_⟩
          refine NoPanic.normal ?_
          go_wp2
          go_ret
          exact ⟨rfl, hHeld⟩
        · rw [if_pos (by rfl)]
          go_simp
          refine hK.out _ _ (Below.drew (Below.alloc kb kb.size _)) (fun hHeld => ?_)
          clear hK K
          have hn3 := (Has.new wz 26 (fun _ => .int .u8 0) 32 _ rfl).drew
          refine wpAnyH_ready (rs := [9]) (by kernel_rfl) (by simp) (AllReadyH.cons rfl (fun K hK => ?_) AllReadyH.nil)
          rw [if_pos (by rfl)]
          go_simp
          refine (parse_no Xb KXb.out _).mono ?_
          rintro e v8 ⟨rfl, hb6⟩
          try go_wp2_with fail
          refine hK.out _ _ (Below.trans hHeld (Below.mono hb6 (Below.size hHeld))) (fun hHeld => ?_)
          clear hK K
          have hn4 := hn3.below hb6 hn3.lt
          have hle := kb.size
          refine takeH 10 (some 79) (.tuple #[.agg (tabv (bv (fun _ => 0)) 32), .int .i64 4]) rfl rfl (by kernel_rfl) (by kernel_rfl) (by kernel_rfl) (fun _ _ _ h => h) (by rfl) (fun w hw => by first | (go_simp; done) | (go_simp; omega) | (go_simp; go_num; done) | rfl) hHeld ?_
          simp only [Act.put, List.setIfInBounds_toArray, List.set_cons_zero, List.set_cons_succ]
          refine takeH 11 (some 90) (.agg (tabv (bv (fun _ => 0)) 32)) rfl rfl (by kernel_rfl) (by kernel_rfl) (by kernel_rfl) (fun _ _ _ h => h) (by rfl) (fun w hw => by first | (go_simp; done) | (go_simp; omega) | (go_simp; go_num; done) | rfl) hHeld ?_
          simp only [Act.put, List.setIfInBounds_toArray, List.set_cons_zero, List.set_cons_succ]
          refine takeH 12 (some 91) (.int .i64 4) rfl rfl (by kernel_rfl) (by kernel_rfl) (by kernel_rfl) (fun _ _ _ h => h) (by rfl) (fun w hw => by first | (go_simp; done) | (go_simp; omega) | (go_simp; go_num; done) | rfl) hHeld ?_
          simp only [Act.put, List.setIfInBounds_toArray, List.set_cons_zero, List.set_cons_succ]
          refine wpAnyH_ready (rs := [14]) (by kernel_rfl) (by simp) (AllReadyH.cons rfl (fun K hK => ?_) AllReadyH.nil)
          rw [if_pos (by rfl)]
          refine wp_store_part 26 _ _ rfl rfl wz.heap.size 0 (bv (fun _ => 0)) 32 rfl rfl 26 _ 32 hn4 (by omega) info26 (fun _ _ => rfl) (bv (fun _ => 0)) (fun i hi => by unfold splice; rw [if_pos (by omega)]; rfl) ?_
          refine hK.out _ _ (below_setRow hHeld hle _) (fun hHeld => ?_)
          clear hK K
          refine takeH 15 (some 16) (.int .i64 4) rfl rfl (by kernel_rfl) (by kernel_rfl) (by kernel_rfl) (fun _ _ _ h => h) (by rfl) (fun w hw => by first | (go_simp; done) | (go_simp; omega) | (go_simp; go_num; done) | rfl) hHeld ?_
          simp only [Act.put, List.setIfInBounds_toArray, List.set_cons_zero, List.set_cons_succ]
          refine ⟨by kernel_rfl, ?_⟩
          refine NoPanic.normal ?_
          go_wp2
          go_ret
          exact ⟨rfl, hHeld⟩
theorem hashDigits_walk (n : Num) (f : Nat → UInt8) (z : Int) (w : World) (hG : Glob n w) : Calls Tryd.prog 5 #[.agg (tabv (bv f) 32), .int .i64 z] w fun e w' => e = .returned (.bool true) ∧ Below w.heap.size w w' := hashDigits_num n f z w hG
theorem i64_range (a : Int) (h : (Lit.int .i64 a).wf = true) : -9223372036854775808 ≤ a ∧ a ≤ 9223372036854775807 := by
  simpa [Lit.wf, IntKind.min, IntKind.max, IntKind.signed, IntKind.bits] using h
end Go.Proofs.YtkhogpnmkonajaaDoor
