/-
  script's writer: names, the first word (printed by gen_wh.py).
-/
import Derived.Test.YtepgoehpjafbhaaGreatDoorSWn
namespace Go.Proofs.YtepgoehpjafbhaaGreatDoor
open Go.RowKit S
set_option linter.unusedVariables false
set_option linter.unusedSimpArgs false
/-- The name that a kind has; none: it has none. -/
def nmK (zs : List ByteArray) (k : Int) : Option (List UInt8) := if 0 ≤ k ∧ k < (zs.length : Int) then (if (zs[k.toNat]?.getD ByteArray.empty).data.toList = [] then none else some (zs[k.toNat]?.getD ByteArray.empty).data.toList) else none
theorem nameOf_any (nb n : Nat) (zs : List ByteArray) (k : Int) (w : World) (h : Nm w nb zs) (hn : n = zs.length) (hz : zs.length ≤ 100) :
    Calls Tryz.prog 103 #[.slice (some ⟨nb, 0, none⟩) n n, .int .i64 k] w fun e w' => w' = w ∧ ((∃ x, nmK zs k = some x ∧ e = .returned (.string (bs x))) ∨ (nmK zs k = none ∧ Bad e)) := by
  by_cases hk : 0 ≤ k ∧ k < (zs.length : Int)
  · obtain ⟨i, rfl⟩ : ∃ i : Nat, k = (i : Int) := ⟨k.toNat, by omega⟩
    have hi : i < zs.length := by omega
    have hg : zs[i]? = some zs[i] := List.getElem?_eq_getElem hi
    have hK : nmK zs (i : Int) = if zs[i].data.toList = [] then none else some zs[i].data.toList := by
      unfold nmK
      rw [if_pos hk, Int.toNat_natCast, hg]
      rfl
    by_cases hx : zs[i].data.toList = []
    · refine (nameOf_no nb n zs i w h hn (.inr ⟨i, rfl, by rw [hg]; exact congrArg some (by rw [← hx]; rfl)⟩) hz).mono ?_
      rintro e w' ⟨hb, rfl⟩
      exact ⟨rfl, .inr ⟨by rw [hK, if_pos hx], hb⟩⟩
    · refine (nameOf_yes nb n zs i zs[i].data.toList w h hn (by rw [hg]; rfl) hx hz).mono ?_
      rintro e w' ⟨rfl, rfl⟩
      exact ⟨rfl, .inl ⟨_, by rw [hK, if_neg hx], rfl⟩⟩
  · refine (nameOf_no nb n zs k w h hn (.inl (by rw [hn]; exact hk)) hz).mono ?_
    rintro e w' ⟨hb, rfl⟩
    exact ⟨rfl, .inr ⟨by unfold nmK; rw [if_neg hk], hb⟩⟩
theorem nmK_len {zs : List ByteArray} {k : Int} {x : List UInt8} (h : nmK zs k = some x) (hz : ∀ y ∈ zs, y.data.toList.length ≤ 100) : x.length ≤ 100 := by
  unfold nmK at h
  split at h
  · split at h
    · cases h
    · rename_i hk _
      injection h with h
      subst h
      have hi : k.toNat < zs.length := by omega
      rw [List.getElem?_eq_getElem hi]
      exact hz _ (List.getElem_mem hi)
  · cases h
theorem len_commN : ∀ y ∈ commN, y.data.toList.length ≤ 100 := by decide +kernel
theorem len_moveN : ∀ y ∈ moveN, y.data.toList.length ≤ 100 := by decide +kernel
theorem len_stepN : ∀ y ∈ stepN, y.data.toList.length ≤ 100 := by decide +kernel
theorem len_fateN : ∀ y ∈ fateN, y.data.toList.length ≤ 100 := by decide +kernel
set_option maxRecDepth 100000 in
theorem wname_any (b N c off m nb n : Nat) (zs : List ByteArray) (ty : TypeId) (f : Nat → Value) (k : Int) (v : Value) (x : WS) (w : World) (hNm : Nm w nb zs) (hn : n = zs.length) (hz : zs.length ≤ 100) (hzl : ∀ y ∈ zs, y.data.toList.length ≤ 100)
    (hW : Wr w b N v x.1 x.2) (hC : Has w c ty f m) (ho : off < m) (hf : f off = .int .i64 k) (ht : x.1.length ≤ 65536) :
    Calls Tryz.prog 97 #[.pointer (some ⟨b, 0, none⟩), .pointer (some ⟨c, off, none⟩), .slice (some ⟨nb, 0, none⟩) n n] w fun e w' => ∃ v', Mw b w v w' v' ∧
      ((∃ s, nmK zs k = some s ∧ e = .returned (.tuple #[]) ∧ Wr w' b N v' (wordW s x).1 (wordW s x).2) ∨ (nmK zs k = none ∧ Bad e)) := by
  have c0 : w.cell? ⟨c, off, none⟩ = some (.int .i64 k) := by rw [hC.cell off ho, hf]
  have hq := nameOf_any nb n zs k w hNm hn hz
  obtain ⟨R, hR⟩ : ∃ R, nmK zs k = R := ⟨_, rfl⟩
  have hRl : ∀ s, R = some s → s.length ≤ 100 := fun s e => nmK_len (hR.trans e) hzl
  rw [hR] at hq ⊢
  have HRl := hide hRl
  clear hf hn hR hRl
  go_enter Tryz.func97, Tryz.ntmps97
  go_wp2_with fail
  refine hq.mono ?_
  rintro e w1 ⟨rfl, ⟨s, hs, rfl⟩ | ⟨hs, rfl⟩⟩
  · have HS := hide hs
    have hsl := HRl.out s hs
    clear hs hq
    go_wp2_with fail
    refine (addWord_any b N v x s _ hW ht (by omega)).mono ?_
    rintro e w2 ⟨rfl, v2, hW2, hM2⟩
    have HW2 := hide hW2
    have HM2 := hide hM2
    clear hW2 hM2
    go_wp2
    go_end0
    exact ⟨v2, HM2.out, .inl ⟨s, HS.out, rfl, HW2.out⟩⟩
  · have HS := hide hs
    clear hs hq
    go_wp2
    exact ⟨rfl, v, Mw.refl _ _ _, .inr ⟨HS.out, rfl⟩⟩
/-- The first word that a writer tells. -/
def headW (f : Nat → Value) : Option (List UInt8) := if kd (f 0) = 2 then nmK moveN (kd (f 133)) else nmK commN (kd (f 0))
set_option maxRecDepth 100000 in
set_option maxHeartbeats 1600000 in
theorem whead_any (b N c : Nat) (f : Nat → Value) (K mk : Int) (v : Value) (x : WS) (w : World) (hW : Wr w b N v x.1 x.2) (hC : Has w c 40 f 176) (hK : f 0 = .int .i64 K) (hmk : f 133 = .int .i64 mk) (ht : x.1.length ≤ 65536) (hcb : c ≠ b) :
    Calls Tryz.prog 96 #[.pointer (some ⟨b, 0, none⟩), .pointer (some ⟨c, 0, none⟩)] w fun e w' => ∃ v', Mw b w v w' v' ∧
      ((∃ s, headW f = some s ∧ e = .returned (.tuple #[]) ∧ Wr w' b N v' (addW s x).1 (addW s x).2) ∨ (headW f = none ∧ Bad e)) := by
  have c0 : w.cell? ⟨c, 0, none⟩ = some (.int .i64 K) := by rw [hC.cell 0 (by omega), hK]
  have hH : headW f = if K = 2 then nmK moveN mk else nmK commN K := by unfold headW; rw [hK, hmk]; rfl
  obtain ⟨R, hR⟩ : ∃ R, headW f = R := ⟨_, rfl⟩
  rw [hR]
  have HR : Hid (R = if K = 2 then nmK moveN mk else nmK commN K) := hide (by rw [← hR, hH])
  have HK := hide hK
  have Hmk := hide hmk
  have HW := hide hW
  have HC := hide hC
  clear hH hR hK hmk hW hC
  go_enter Tryz.func96, Tryz.ntmps96
  by_cases e2 : K = 2
  · have hd : (K == 2) = true := by rw [e2]; rfl
    have HR2 : Hid (R = nmK moveN mk) := hide (by rw [HR.out, if_pos e2])
    clear e2
    go_wp2_with fail
    have hNl : ∀ y ∈ moveN, y.data.toList.length ≤ 100 := len_moveN
    have HNl := hide hNl
    clear hNl
    refine wp_region_pan (fun wx => R = none ∧ ∃ v', Mw b w v wx v') (fun a wx hdf hx => ?_) ?_
    · go_wp2
      obtain ⟨hx1, v9, hx2⟩ := hx
      exact ⟨hdf, v9, hx2, .inr ⟨hx1, rfl⟩⟩
    refine wp_region_T (S := fun wx => Has wx c 40 f 176) 8 (by kernel_rfl) HC.out.drew (fun hHeld => ?_)
    generalize hwq : World.drew w = wq at hHeld ⊢
    have bq : Below w.heap.size w wq := by rw [← hwq]; exact (Below.refl _ w).drew
    clear hwq
    refine takeT 0 (some 9) (.pointer (some ⟨b, 0, none⟩)) rfl rfl (by kernel_rfl) (by kernel_rfl) (by kernel_rfl) (by kernel_rfl) (by decide) (fun _ _ _ h => h) (by rfl) (fun w_ hw => by first | rfl | (go_simp; done) | (go_simp; rfl)) hHeld ?_
    simp only [Act.put, List.setIfInBounds_toArray, List.set_cons_zero, List.set_cons_succ]
    refine takeP [7, 6, 5, 4, 3] 2 (some 11) (.pointer (some ⟨c, 0, none⟩)) rfl rfl (by kernel_rfl) (by kernel_rfl) (by kernel_rfl) (by kernel_rfl) (by kernel_rfl) (by decide) (fun _ _ _ h => h) (by rfl) (fun w_ hw => by first | rfl | (go_simp; done) | (go_simp; rfl)) hHeld ?_
    simp only [Act.put, List.setIfInBounds_toArray, List.set_cons_zero, List.set_cons_succ]
    refine takeP [7, 6, 5, 4] 3 (some 12) (.pointer (some ⟨c, 0, none⟩)) rfl rfl (by kernel_rfl) (by kernel_rfl) (by kernel_rfl) (by kernel_rfl) (by kernel_rfl) (by decide) (fun _ _ _ h => h) (by rfl) (fun w_ hw => by first | rfl | (go_simp; done) | (go_simp; rfl)) hHeld ?_
    simp only [Act.put, List.setIfInBounds_toArray, List.set_cons_zero, List.set_cons_succ]
    refine takeP [7, 6, 5] 4 (some 13) (.pointer (some ⟨c, 133, none⟩)) rfl rfl (by kernel_rfl) (by kernel_rfl) (by kernel_rfl) (by kernel_rfl) (by kernel_rfl) (by decide) (fun _ _ _ h => h) (by rfl) (fun w_ hw => by first | rfl | (go_simp; done) | (go_simp; rfl)) hHeld ?_
    simp only [Act.put, List.setIfInBounds_toArray, List.set_cons_zero, List.set_cons_succ]
    refine takeP [7, 6] 5 (some 14) (.pointer (some ⟨c, 133, none⟩)) rfl rfl (by kernel_rfl) (by kernel_rfl) (by kernel_rfl) (by kernel_rfl) (by kernel_rfl) (by decide) (fun _ _ _ h => h) (by rfl) (fun w_ hw => by first | rfl | (go_simp; done) | (go_simp; rfl)) hHeld ?_
    simp only [Act.put, List.setIfInBounds_toArray, List.set_cons_zero, List.set_cons_succ]
    refine takeP [7] 6 (some 15) (.int .i64 mk) rfl rfl (by kernel_rfl) (by kernel_rfl) (by kernel_rfl) (by kernel_rfl) (by kernel_rfl) (by decide) (fun _ _ _ h => h) (by rfl) (fun w_ hw => by have cc : World.cell? _ ⟨c, 133, none⟩ = some (.int .i64 mk) := (by rw [hw.cell 133 (by omega), Hmk.out]); go_simp) hHeld ?_
    simp only [Act.put, List.setIfInBounds_toArray, List.set_cons_zero, List.set_cons_succ]
    refine readyT 1 (by kernel_rfl) rfl (by rfl) (fun K_ hK_ => ?_)
    go_simp
    refine (moveNames_any _).mono ?_
    rintro e w1 ⟨rfl, hw1⟩
    have b1 : Below wq.heap.size wq w1 := by rw [hw1]; exact (Below.refl _ wq).alloc (Nat.le_refl _) _
    have hNm : Nm w1 wq.heap.size moveN := by rw [hw1]; exact Nm.new wq moveN
    have hC1 : Has w1 c 40 f 176 := hHeld.below b1 hHeld.lt
    have b01 : Below w.heap.size w w1 := bq.trans (b1.mono bq.size)
    have hW1 := HW.out.below b01
    have hM1 : Mw b w v w1 v := Mw.of b01
    clear hw1 b1
    try go_wp2_with fail
    refine hK_.out _ _ (fun _ => hC1) (fun hH => ?_)
    clear hHeld
    have hHeld := hH (by decide)
    clear hK_ K_ hH
    refine readyT 7 (by kernel_rfl) rfl (by rfl) (fun K_ hK_ => ?_)
    go_simp
    refine (nameOf_any wq.heap.size 6 moveN mk _ hNm rfl (by decide)).mono ?_
    rintro e w2 ⟨rfl, ⟨s, hs, rfl⟩ | ⟨hs, rfl⟩⟩
    case inr => exact ⟨rfl, rfl, by rw [HR2.out, hs], v, hM1⟩
    have HRs : Hid (R = some s) := hide (by rw [HR2.out, hs])
    have hsl := nmK_len hs HNl.out
    try go_wp2_with fail
    refine hK_.out _ _ (fun _ => hC1) (fun hH => ?_)
    clear hHeld
    have hHeld := hH (by decide)
    clear hK_ K_ hH
    refine readyT 8 (by kernel_rfl) rfl (by rfl) (fun K_ hK_ => ?_)
    go_simp
    refine (add_any b N v x.1 s x.2 _ hW1 ht (by omega)).mono ?_
    rintro e w3 ⟨rfl, v3, hW3, hM3⟩
    have HW3 := hide hW3
    have HM3 := hide (hM1.trans hM3)
    clear hs hNm hC1 b01 hW1 hM1 hW3 hM3
    try go_wp2_with fail
    refine hK_.out _ _ (fun x => absurd rfl x) (fun _ => ?_)
    clear hK_ K_ hHeld
    refine ⟨by kernel_rfl, ?_⟩
    refine Pan.normal ?_
    go_wp2
    first | go_end0 | refine bodyPost_ret (results_none rfl _ _ _) rfl ?_
    exact ⟨v3, HM3.out, .inl ⟨s, HRs.out, rfl, HW3.out⟩⟩
  · have hd : (K == 2) = false := beq_eq_false_iff_ne.2 e2
    have HR2 : Hid (R = nmK commN K) := hide (by rw [HR.out, if_neg e2])
    clear e2
    go_wp2_with fail
    have hNl : ∀ y ∈ commN, y.data.toList.length ≤ 100 := len_commN
    have HNl := hide hNl
    clear hNl
    refine wp_region_pan (fun wx => R = none ∧ ∃ v', Mw b w v wx v') (fun a wx hdf hx => ?_) ?_
    · go_wp2
      obtain ⟨hx1, v9, hx2⟩ := hx
      exact ⟨hdf, v9, hx2, .inr ⟨hx1, rfl⟩⟩
    refine wp_region_T (S := fun wx => Has wx c 40 f 176) 7 (by kernel_rfl) HC.out.drew (fun hHeld => ?_)
    generalize hwq : World.drew w = wq at hHeld ⊢
    have bq : Below w.heap.size w wq := by rw [← hwq]; exact (Below.refl _ w).drew
    clear hwq
    refine takeT 0 (some 18) (.pointer (some ⟨b, 0, none⟩)) rfl rfl (by kernel_rfl) (by kernel_rfl) (by kernel_rfl) (by kernel_rfl) (by decide) (fun _ _ _ h => h) (by rfl) (fun w_ hw => by first | rfl | (go_simp; done) | (go_simp; rfl)) hHeld ?_
    simp only [Act.put, List.setIfInBounds_toArray, List.set_cons_zero, List.set_cons_succ]
    refine takeP [6, 5, 4, 3] 2 (some 20) (.pointer (some ⟨c, 0, none⟩)) rfl rfl (by kernel_rfl) (by kernel_rfl) (by kernel_rfl) (by kernel_rfl) (by kernel_rfl) (by decide) (fun _ _ _ h => h) (by rfl) (fun w_ hw => by first | rfl | (go_simp; done) | (go_simp; rfl)) hHeld ?_
    simp only [Act.put, List.setIfInBounds_toArray, List.set_cons_zero, List.set_cons_succ]
    refine takeP [6, 5, 4] 3 (some 21) (.pointer (some ⟨c, 0, none⟩)) rfl rfl (by kernel_rfl) (by kernel_rfl) (by kernel_rfl) (by kernel_rfl) (by kernel_rfl) (by decide) (fun _ _ _ h => h) (by rfl) (fun w_ hw => by first | rfl | (go_simp; done) | (go_simp; rfl)) hHeld ?_
    simp only [Act.put, List.setIfInBounds_toArray, List.set_cons_zero, List.set_cons_succ]
    refine takeP [6, 5] 4 (some 22) (.pointer (some ⟨c, 0, none⟩)) rfl rfl (by kernel_rfl) (by kernel_rfl) (by kernel_rfl) (by kernel_rfl) (by kernel_rfl) (by decide) (fun _ _ _ h => h) (by rfl) (fun w_ hw => by first | rfl | (go_simp; done) | (go_simp; rfl)) hHeld ?_
    simp only [Act.put, List.setIfInBounds_toArray, List.set_cons_zero, List.set_cons_succ]
    refine takeP [6] 5 (some 23) (.int .i64 K) rfl rfl (by kernel_rfl) (by kernel_rfl) (by kernel_rfl) (by kernel_rfl) (by kernel_rfl) (by decide) (fun _ _ _ h => h) (by rfl) (fun w_ hw => by have cc : World.cell? _ ⟨c, 0, none⟩ = some (.int .i64 K) := (by rw [hw.cell 0 (by omega), HK.out]); go_simp) hHeld ?_
    simp only [Act.put, List.setIfInBounds_toArray, List.set_cons_zero, List.set_cons_succ]
    refine readyT 1 (by kernel_rfl) rfl (by rfl) (fun K_ hK_ => ?_)
    go_simp
    refine (commNames_any _).mono ?_
    rintro e w1 ⟨rfl, hw1⟩
    have b1 : Below wq.heap.size wq w1 := by rw [hw1]; exact (Below.refl _ wq).alloc (Nat.le_refl _) _
    have hNm : Nm w1 wq.heap.size commN := by rw [hw1]; exact Nm.new wq commN
    have hC1 : Has w1 c 40 f 176 := hHeld.below b1 hHeld.lt
    have b01 : Below w.heap.size w w1 := bq.trans (b1.mono bq.size)
    have hW1 := HW.out.below b01
    have hM1 : Mw b w v w1 v := Mw.of b01
    clear hw1 b1
    try go_wp2_with fail
    refine hK_.out _ _ (fun _ => hC1) (fun hH => ?_)
    clear hHeld
    have hHeld := hH (by decide)
    clear hK_ K_ hH
    refine readyT 6 (by kernel_rfl) rfl (by rfl) (fun K_ hK_ => ?_)
    go_simp
    refine (nameOf_any wq.heap.size 10 commN K _ hNm rfl (by decide)).mono ?_
    rintro e w2 ⟨rfl, ⟨s, hs, rfl⟩ | ⟨hs, rfl⟩⟩
    case inr => exact ⟨rfl, rfl, by rw [HR2.out, hs], v, hM1⟩
    have HRs : Hid (R = some s) := hide (by rw [HR2.out, hs])
    have hsl := nmK_len hs HNl.out
    try go_wp2_with fail
    refine hK_.out _ _ (fun _ => hC1) (fun hH => ?_)
    clear hHeld
    have hHeld := hH (by decide)
    clear hK_ K_ hH
    refine readyT 7 (by kernel_rfl) rfl (by rfl) (fun K_ hK_ => ?_)
    go_simp
    refine (add_any b N v x.1 s x.2 _ hW1 ht (by omega)).mono ?_
    rintro e w3 ⟨rfl, v3, hW3, hM3⟩
    have HW3 := hide hW3
    have HM3 := hide (hM1.trans hM3)
    clear hs hNm hC1 b01 hW1 hM1 hW3 hM3
    try go_wp2_with fail
    refine hK_.out _ _ (fun x => absurd rfl x) (fun _ => ?_)
    clear hK_ K_ hHeld
    refine ⟨by kernel_rfl, ?_⟩
    refine Pan.normal ?_
    go_wp2
    first | go_end0 | refine bodyPost_ret (results_none rfl _ _ _) rfl ?_
    exact ⟨v3, HM3.out, .inl ⟨s, HRs.out, rfl, HW3.out⟩⟩
end Go.Proofs.YtepgoehpjafbhaaGreatDoor
