/-
  The document's Hex and Parse.
-/
import Derived.Test.YtkhogpnmkonajaaDoorBytesText
import Derived.Test.YtkhogpnmkonajaaDoorLawHashDigits
namespace Go.Proofs.YtkhogpnmkonajaaDoor
open Go.RowKit S
/-- append(v, ns...) of bytes that were just laid. -/
theorem wp_append_bytes {o : Oper} {a : Act} {w w0 : World} {K : Act → World → Prop} {Q : Exit → Act → World → Prop} (s x : Operand)
    (ho : o.op = .call { callee := .builtin .append, args := #[s, x], argTypes := #[29, 29] }) (d : Option Tmp) (hd : o.dst = d) (B : Nat) (v : Value) (l ns : List UInt8) (hns : 0 < ns.length) (m : Nat) (hm : ns.length = m) (hs : a.eval s = v) (hown : Bytes w0 B v l)
    (hx : a.eval x = .slice (some ⟨w0.heap.size, 0, none⟩) m m) (hw : w = w0.alloc (.cells (ns.map byteV).toArray 5)) (hlen : l.length + ns.length ≤ 140737488355328) (hB : B ≤ w0.heap.size)
    (h : ∀ g cap w', Bytes w' B (.slice (some ⟨g, 0, none⟩) (l.length + m) cap) (l ++ ns) → w0.grownBy w' v.ownBlock → K (a.put d (.slice (some ⟨g, 0, none⟩) (l.length + m) cap)) w') : o.wp Tryd.prog a w K Q := by
  subst hw hm hd
  have hh := info5
  cases hq : Tryd.prog.info? 5 with
  | none => rw [hq] at hh; cases hh
  | some i =>
    rw [hq] at hh
    simp only [Option.map_some, Option.some.injEq, Prod.mk.injEq] at hh
    obtain ⟨hz0, hz1, hz2⟩ := hh
    have hown' : (w0.alloc (.cells (ns.map byteV).toArray 5)).ownsRow B 5 1 v l.length (l.map byteV) := World.ownsRow.kept hown (grown_alloc w0 _ none) (by cases v.ownBlock <;> simp)
    refine wp_append_lies (P := Tryd.prog) _ s x 29 ho B 5 i (.int .u8 0) 1 1 Tryd.underlying29 hq hz0 hz1 hz2 rfl (by omega) v l.length (l.map byteV) hs hown' ⟨w0.heap.size, 0, none⟩ ns.length ns.length (ns.map byteV) hx (by simp) ?_ ?_ hns (by unfold maxLen; omega) (by omega) (by simp; omega) (w0.heap.size + 1) (by simp) ?_
    · intro j u hu
      exact World.news_of_block (heap_alloc_new w0 _) j u (by simpa using hu)
    · intro u hu
      obtain ⟨c, _, rfl⟩ := List.mem_map.1 hu
      rfl
    · intro g cap w' h1 h2 h3 h4
      refine h g cap w' ?_ ((grown_alloc w0 _ v.ownBlock).trans h2)
      unfold Bytes
      rw [List.length_append, List.map_append]
      exact h1
attribute [local go_sem ↓] Go.wp_at_zero Go.wp_at_succ
theorem lower_mod (w : World) (b : UInt8) : (Instr.index 9 (.string { data := #[48, 49, 50, 51, 52, 53, 54, 55, 56, 57, 97, 98, 99, 100, 101, 102] }) (.int .u8 ((b.toNat : Int) % 16))).run Tryd.prog w = .ok (.int .u8 ((dig (b.toNat % 16)).toNat : Int)) w := by
  have hb := b.toNat_lt
  exact run_index_str w digD .u8 (b.toNat % 16) _ (dig_at ⟨b.toNat % 16, by omega⟩)
set_option maxHeartbeats 1600000 in
theorem refHex_any (h : Nat → UInt8) (w : World) :
    Calls Tryd.prog 17 #[.agg (tabv (bv h) 32)] w fun e w' => e = .returned (.string (strOf (hexd h) 64)) ∧ Below w.heap.size w w' := by
  go_enter Tryd.func17, Tryd.ntmps17
  go_wp2
  have g0 := Has.new w 26 (bv h) 32 _ rfl
  have gb := (Below.refl w.heap.size w).alloc (Nat.le_refl _) (.cells (tabv (bv h) 32) 26)
  have gs : w.heap.size + 1 ≤ (w.alloc (.cells (tabv (bv h) 32) 26)).heap.size := by simp
  generalize World.alloc w _ = w3 at g0 gb gs ⊢
  go_loopw [5, 4] (fun i v wr => ∃ k : Nat, k ≤ 32 ∧ i = .int .i64 k ∧ Bytes wr (w.heap.size + 1) v ((List.range (2 * k)).map (hexd h)) ∧ Has wr w.heap.size 26 (bv h) 32 ∧ Below w.heap.size w wr ∧ w.heap.size + 1 ≤ wr.heap.size) (fun i _ _ => 32 - (intOf i).toNat)
  case atStart => exact ⟨0, by omega, rfl, Bytes.nil _ _, g0, gb, gs⟩
  case round =>
    clear g0 gb gs
    obtain ⟨k, hk, rfl, hB, g0, gb, gs⟩ := hrel
    by_cases hlt : k < 32
    · have hc := g0.cell k hlt
      simp only [bv] at hc
      have hbt := (h k).toNat_lt
      have hd : decide ((k : Int) < 32) = true := by simp; omega
      have hk0 : (0 : Int) ≤ (k : Int) := by omega
      have hk1 : (k : Int) < 32 := by omega
      have hdq : IntKind.u8.wrap (((h k).toNat : Int) / 16) = ((h k).toNat : Int) / 16 := by
        unfold IntKind.wrap; simp [IntKind.signed, IntKind.bits]; omega
      have hdr : IntKind.u8.wrap (((h k).toNat : Int) % 16) = ((h k).toNat : Int) % 16 := by
        unfold IntKind.wrap; simp [IntKind.signed, IntKind.bits]; omega
      have hU := fun w => upper_at w (h k)
      have hL := fun w => lower_mod w (h k)
      have e0 : dig ((h k).toNat / 16) = hexd h (2 * k) := by unfold hexd; rw [if_pos (by omega), show 2 * k / 2 = k by omega]
      have e1 : dig ((h k).toNat % 16) = hexd h (2 * k + 1) := by unfold hexd; rw [if_neg (by omega), show (2 * k + 1) / 2 = k by omega]
      rw [e0] at hU
      rw [e1] at hL
      clear e0 e1
      have ck : ∀ wy : World, Has wy w.heap.size 26 (bv h) 32 → wy.cell? ⟨w.heap.size, k, none⟩ = some (.int .u8 ((h k).toNat : Int)) := fun w hw => Has.cell hw k hlt
      go_wp2
      refine wp_region_noPanic ?_
      refine wp_region_held_drew (S := fun wx => Has wx w.heap.size 26 (bv h) 32) (by kernel_rfl) g0 (fun hHeld => ?_)
      refine takeH 0 (some 10) u4 rfl rfl (by kernel_rfl) (by kernel_rfl) (by kernel_rfl) (fun _ _ _ h => h) (by rfl) (fun w hw => by first | (go_simp; done) | (go_simp; omega) | (go_simp; go_num; done) | rfl) hHeld ?_
      simp only [Act.put, List.setIfInBounds_toArray, List.set_cons_zero, List.set_cons_succ]
      refine takeH 1 (some 11) (.string { data := #[48, 49, 50, 51, 52, 53, 54, 55, 56, 57, 97, 98, 99, 100, 101, 102] }) rfl rfl (by kernel_rfl) (by kernel_rfl) (by kernel_rfl) (fun _ _ _ h => h) (by rfl) (fun w hw => by first | (go_simp; done) | (go_simp; omega) | (go_simp; go_num; done) | rfl) hHeld ?_
      simp only [Act.put, List.setIfInBounds_toArray, List.set_cons_zero, List.set_cons_succ]
      refine takeH 2 (some 12) (.int .i64 k) rfl rfl (by kernel_rfl) (by kernel_rfl) (by kernel_rfl) (fun _ _ _ h => h) (by rfl) (fun w hw => by first | (go_simp; done) | (go_simp; omega) | (go_simp; go_num; done) | rfl) hHeld ?_
      simp only [Act.put, List.setIfInBounds_toArray, List.set_cons_zero, List.set_cons_succ]
      refine takeH 3 (some 13) (.pointer (some ⟨w.heap.size, k, none⟩)) rfl rfl (by kernel_rfl) (by kernel_rfl) (by kernel_rfl) (fun _ _ _ h => h) (by rfl) (fun w hw => by have hcc := ck _ hw; first | (go_simp; done) | (go_simp; omega) | (go_simp; go_num; done) | rfl) hHeld ?_
      simp only [Act.put, List.setIfInBounds_toArray, List.set_cons_zero, List.set_cons_succ]
      refine takeH 4 (some 14) (.int .u8 ((h k).toNat : Int)) rfl rfl (by kernel_rfl) (by kernel_rfl) (by kernel_rfl) (fun _ _ _ h => h) (by rfl) (fun w hw => by have hcc := ck _ hw; first | (go_simp; done) | (go_simp; omega) | (go_simp; go_num; done) | rfl) hHeld ?_
      simp only [Act.put, List.setIfInBounds_toArray, List.set_cons_zero, List.set_cons_succ]
      refine takeH 5 (some 15) (.int .u8 (((h k).toNat : Int) / 16)) rfl rfl (by kernel_rfl) (by kernel_rfl) (by kernel_rfl) (fun _ _ _ h => h) (by rfl) (fun w hw => by have hcc := ck _ hw; first | (go_simp; done) | (go_simp; omega) | (go_simp; go_num; done) | rfl) hHeld ?_
      simp only [Act.put, List.setIfInBounds_toArray, List.set_cons_zero, List.set_cons_succ]
      refine takeH 6 (some 16) (.int .u8 ((hexd h (2 * k)).toNat : Int)) rfl rfl (by kernel_rfl) (by kernel_rfl) (by kernel_rfl) (fun _ _ _ h => h) (by rfl) (fun w hw => by have hcc := ck _ hw; first | (go_simp; done) | (go_simp; omega) | (go_simp; go_num; done) | rfl) hHeld ?_
      simp only [Act.put, List.setIfInBounds_toArray, List.set_cons_zero, List.set_cons_succ]
      refine takeH 7 (some 17) (.string { data := #[48, 49, 50, 51, 52, 53, 54, 55, 56, 57, 97, 98, 99, 100, 101, 102] }) rfl rfl (by kernel_rfl) (by kernel_rfl) (by kernel_rfl) (fun _ _ _ h => h) (by rfl) (fun w hw => by first | (go_simp; done) | (go_simp; omega) | (go_simp; go_num; done) | rfl) hHeld ?_
      simp only [Act.put, List.setIfInBounds_toArray, List.set_cons_zero, List.set_cons_succ]
      refine takeH 8 (some 18) (.int .i64 k) rfl rfl (by kernel_rfl) (by kernel_rfl) (by kernel_rfl) (fun _ _ _ h => h) (by rfl) (fun w hw => by first | (go_simp; done) | (go_simp; omega) | (go_simp; go_num; done) | rfl) hHeld ?_
      simp only [Act.put, List.setIfInBounds_toArray, List.set_cons_zero, List.set_cons_succ]
      refine takeH 9 (some 19) (.pointer (some ⟨w.heap.size, k, none⟩)) rfl rfl (by kernel_rfl) (by kernel_rfl) (by kernel_rfl) (fun _ _ _ h => h) (by rfl) (fun w hw => by have hcc := ck _ hw; first | (go_simp; done) | (go_simp; omega) | (go_simp; go_num; done) | rfl) hHeld ?_
      simp only [Act.put, List.setIfInBounds_toArray, List.set_cons_zero, List.set_cons_succ]
      refine takeH 10 (some 20) (.int .u8 ((h k).toNat : Int)) rfl rfl (by kernel_rfl) (by kernel_rfl) (by kernel_rfl) (fun _ _ _ h => h) (by rfl) (fun w hw => by have hcc := ck _ hw; first | (go_simp; done) | (go_simp; omega) | (go_simp; go_num; done) | rfl) hHeld ?_
      simp only [Act.put, List.setIfInBounds_toArray, List.set_cons_zero, List.set_cons_succ]
      refine takeH 11 (some 21) (.int .u8 (((h k).toNat : Int) % 16)) rfl rfl (by kernel_rfl) (by kernel_rfl) (by kernel_rfl) (fun _ _ _ h => h) (by rfl) (fun w hw => by have hcc := ck _ hw; first | (go_simp; done) | (go_simp; omega) | (go_simp; go_num; done) | rfl) hHeld ?_
      simp only [Act.put, List.setIfInBounds_toArray, List.set_cons_zero, List.set_cons_succ]
      refine takeH 12 (some 22) (.int .u8 ((hexd h (2 * k + 1)).toNat : Int)) rfl rfl (by kernel_rfl) (by kernel_rfl) (by kernel_rfl) (fun _ _ _ h => h) (by rfl) (fun w hw => by have hcc := ck _ hw; first | (go_simp; done) | (go_simp; omega) | (go_simp; go_num; done) | rfl) hHeld ?_
      simp only [Act.put, List.setIfInBounds_toArray, List.set_cons_zero, List.set_cons_succ]
      refine wpAnyH_ready (rs := [13]) (by kernel_rfl) (by simp) (AllReadyH.cons rfl (fun K hK => ?_) AllReadyH.nil)
      rw [if_pos (by rfl)]
      go_simp
      refine hK.out _ _ ((g0.old _).drew) (fun hHeld => ?_)
      clear hK K
      refine wpAnyH_ready (rs := [14]) (by kernel_rfl) (by simp) (AllReadyH.cons rfl (fun K hK => ?_) AllReadyH.nil)
      rw [if_pos (by rfl)]
      refine wp_append_bytes (w0 := wr.drew) _ _ rfl (some 24) rfl (w.heap.size + 1) u4 ((List.range (2 * k)).map (hexd h)) [hexd h (2 * k), hexd h (2 * k + 1)] (by simp) 2 rfl rfl hB rfl rfl (by simp; omega) gs ?_
      intro g cap w5 hB5 hgr
      have hbl := grown_below (B := w.heap.size + 1) hgr hB.block gs
      have g05 : Has w5 w.heap.size 26 (bv h) 32 := Has.below (w := wr.drew) g0 hbl (by omega)
      refine hK.out _ _ g05 (fun hHeld => ?_)
      clear hK K
      simp only [Act.put, List.setIfInBounds_toArray, List.set_cons_zero, List.set_cons_succ]
      refine takeH 15 (some 4) (.slice (some ⟨g, 0, none⟩) (((List.range (2 * k)).map (hexd h)).length + 2) cap) rfl rfl (by kernel_rfl) (by kernel_rfl) (by kernel_rfl) (fun _ _ _ h => h) (by rfl) (fun w hw => rfl) hHeld ?_
      simp only [Act.put, List.setIfInBounds_toArray, List.set_cons_zero, List.set_cons_succ]
      refine ⟨by kernel_rfl, ?_⟩
      refine NoPanic.normal ?_
      go_wp2
      go_roundw
      case rel =>
        refine ⟨k + 1, by omega, by go_num, ?_, g05, gb.drew.trans (hbl.mono (by omega)), Nat.le_trans gs hbl.size⟩
        have e : (List.range (2 * k)).map (hexd h) ++ [hexd h (2 * k), hexd h (2 * k + 1)] = (List.range (2 * (k + 1))).map (hexd h) := by
          rw [show 2 * (k + 1) = 2 * k + 1 + 1 by omega, ← range_snoc, ← range_snoc, List.append_assoc]; rfl
        rw [e] at hB5
        simp only [List.length_map, List.length_range] at hB5 ⊢
        exact hB5
      case measure => simp [intOf]; omega
    · have hk32 : k = 32 := by omega
      subst hk32
      obtain ⟨g, cap, rfl, _, _⟩ := World.ownsRow.form hB (by simp)
      rw [show ((List.range (2 * 32)).map (hexd h)).length = 64 by simp] at hB ⊢
      have hcv := hB.conv (by simp)
      go_wp2
      go_ret
      exact ⟨rfl, gb⟩
theorem dig_dv : ∀ v : Fin 16, ∀ c : Fin 256, (dig v.val).toNat = c.val ↔ ((dv (UInt8.ofNat c.val)).2 = true ∧ (dv (UInt8.ofNat c.val)).1.toNat = v.val) := by decide +kernel
theorem dig_eq (v : Nat) (hv : v < 16) (c : UInt8) : ((dig v).toNat : Int) = (c.toNat : Int) ↔ ((dv c).2 = true ∧ (dv c).1.toNat = v) := by
  have := dig_dv ⟨v, hv⟩ ⟨c.toNat, c.toNat_lt⟩
  simp only [UInt8.ofNat_toNat] at this
  rw [← this]; omega
/-- A byte and a digit more. -/
def nx (c o : UInt8) : UInt8 := if (dv c).2 = true then UInt8.ofNat (16 * o.toNat + (dv c).1.toNat) else o
/-- The bytes behind k letters. -/
def acc (s : List UInt8) : Nat → Nat → UInt8
  | 0 => fun _ => 0
  | k + 1 => upd (acc s k) (k / 2) (nx (byteAt s k) (acc s k (k / 2)))
theorem acc_good (s : List UInt8) (hg : Good s) (k : Nat) (hk : k ≤ 32) : ∀ i, acc s (2 * k) i = if i < k then pv s i else 0 := by
  induction k with
  | zero => intro i; rw [if_neg (by omega)]; rfl
  | succ k ih =>
    intro i
    have ih := ih (by omega)
    have o1 := hg.2 (2 * k) (by omega)
    have o2 := hg.2 (2 * k + 1) (by omega)
    have l1 := dv_lt (byteAt s (2 * k))
    have l2 := dv_lt (byteAt s (2 * k + 1))
    rw [show 2 * (k + 1) = 2 * k + 1 + 1 by omega]
    simp only [acc]
    rw [show (2 * k + 1) / 2 = k by omega, show 2 * k / 2 = k by omega]
    have e1 : upd (acc s (2 * k)) k (nx (byteAt s (2 * k)) (acc s (2 * k) k)) k = UInt8.ofNat (dv (byteAt s (2 * k))).1.toNat := by
      unfold upd nx; rw [if_pos rfl, if_pos o1, ih k, if_neg (by omega)]; simp
    by_cases h : i = k
    · subst h
      rw [if_pos (by omega)]
      unfold upd at e1 ⊢
      rw [if_pos rfl, e1]
      unfold nx pv
      rw [if_pos o2, UInt8.toNat_ofNat', Nat.mod_eq_of_lt (by omega)]
    · unfold upd
      rw [if_neg h, if_neg h, ih i]
      by_cases h2 : i < k
      · rw [if_pos h2, if_pos (by omega)]
      · rw [if_neg h2, if_neg (by omega)]
theorem hex_good (h : Nat → UInt8) : Good ((List.range 64).map (hexd h)) := by
  refine ⟨by simp, fun i hi => ?_⟩
  have e : byteAt ((List.range 64).map (hexd h)) i = dig (nib h i) := by
    unfold byteAt; rw [List.getD_eq_getElem?_getD, List.getElem?_map, List.getElem?_range hi, ← nib_dig]; rfl
  rw [e]
  exact ((dig_eq (nib h i) (nib_lt h i) _).1 rfl).1
theorem hex_pv (s : List UInt8) (hg : Good s) : (List.range 64).map (hexd (pv s)) = s := by
  apply List.ext_getElem?
  intro i
  rcases Nat.lt_or_ge i 64 with hi | hi
  · rw [List.getElem?_map, List.getElem?_range hi, List.getElem?_eq_getElem (by rw [hg.1]; exact hi)]
    have hc := hg.2 i hi
    have hb : byteAt s i = s[i]'(by rw [hg.1]; exact hi) := by unfold byteAt; rw [List.getD_eq_getElem?_getD, List.getElem?_eq_getElem (by rw [hg.1]; exact hi)]; rfl
    rw [← hb]
    show some (hexd (pv s) i) = some (byteAt s i)
    congr 1
    rw [nib_dig, ← UInt8.toNat_inj]
    have key : nib (pv s) i = (dv (byteAt s i)).1.toNat := by
      have l1 := dv_lt (byteAt s (2 * (i / 2)))
      have l2 := dv_lt (byteAt s (2 * (i / 2) + 1))
      have ep : (pv s (i / 2)).toNat = 16 * (dv (byteAt s (2 * (i / 2)))).1.toNat + (dv (byteAt s (2 * (i / 2) + 1))).1.toNat := by unfold pv; rw [UInt8.toNat_ofNat', Nat.mod_eq_of_lt (by omega)]
      unfold nib
      by_cases h : i % 2 = 0
      · rw [if_pos h, ep, show 2 * (i / 2) = i by omega] at *; omega
      · rw [if_neg h, ep, show 2 * (i / 2) + 1 = i by omega] at *; omega
    have := (dig_eq (nib (pv s) i) (nib_lt _ _) (byteAt s i)).2 ⟨hc, key.symm⟩
    omega
  · rw [List.getElem?_eq_none (by simp; omega), List.getElem?_eq_none (by rw [hg.1]; omega)]
end Go.Proofs.YtkhogpnmkonajaaDoor
