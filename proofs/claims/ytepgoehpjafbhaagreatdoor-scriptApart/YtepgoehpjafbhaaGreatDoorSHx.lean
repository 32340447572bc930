import Derived.Test.YtepgoehpjafbhaaGreatDoorSPa
import Derived.Test.YtepgoehpjafbhaaGreatDoorSQo
import Derived.Test.YtepgoehpjafbhaaGreatDoorSFi
/-
  ScriptQuotes: what Parse tells of a line with a quoted text.
-/
namespace Go.Proofs.YtepgoehpjafbhaaGreatDoor
open Go.RowKit S
set_option linter.unusedVariables false
set_option linter.unusedSimpArgs false
/-- The longest way. -/
def hx (c : UInt8) : List UInt8 := [92, 120, hexd (c.toNat / 16), hexd (c.toNat % 16)]
theorem hx_val : ∀ c : UInt8, 0 ≤ valA (hexd (c.toNat / 16)) ∧ 0 ≤ valA (hexd (c.toNat % 16)) ∧ byteA (hexd (c.toNat / 16)) (hexd (c.toNat % 16)) = c := by
  have h : ∀ i : Fin 256, 0 ≤ valA (hexd ((UInt8.ofNat i.val).toNat / 16)) ∧ 0 ≤ valA (hexd ((UInt8.ofNat i.val).toNat % 16)) ∧ byteA (hexd ((UInt8.ofNat i.val).toNat / 16)) (hexd ((UInt8.ofNat i.val).toNat % 16)) = UInt8.ofNat i.val := by decide +kernel
  intro c
  have := h ⟨c.toNat, c.toNat_lt⟩
  simpa using this
def preQ (c : List UInt8) (x : Option (List UInt8 × List UInt8)) : Option (List UInt8 × List UInt8) := x.map fun y => (c ++ y.1, y.2)
theorem preQ_nil (x : Option (List UInt8 × List UInt8)) : preQ [] x = x := by cases x <;> rfl
theorem preQ_cons (c : UInt8) (s : List UInt8) (x : Option (List UInt8 × List UInt8)) : preQ [c] (preQ s x) = preQ (c :: s) x := by cases x <;> rfl
theorem qL_hx (n : Nat) (c : UInt8) (t : List UInt8) : qL (n + 1) (hx c ++ t) = preQ [c] (qL n t) := by
  obtain ⟨h1, h2, h3⟩ := hx_val c
  show qL (n + 1) (92 :: 120 :: hexd (c.toNat / 16) :: hexd (c.toNat % 16) :: t) = _
  rw [qL_cons, if_neg (by decide), if_pos (by decide), if_pos rfl, escA_cons, if_pos rfl, escX_two, if_pos ⟨h1, h2⟩, h3]
  rfl
theorem qL_qb (n : Nat) (c : UInt8) (t : List UInt8) : qL (n + 1) (qb c ++ t) = preQ [c] (qL n t) := by
  unfold qb
  by_cases h : isPl c = true
  · rw [if_pos h]
    by_cases h2 : c = 34 ∨ c = 92
    · rw [if_pos h2]
      show qL (n + 1) (92 :: c :: t) = _
      rw [qL_cons, if_neg (by decide), if_pos (by decide), if_pos rfl, escA_cons, if_neg (by rcases h2 with rfl | rfl <;> decide), if_pos h2]
      rfl
    · rw [if_neg h2]
      show qL (n + 1) (c :: t) = _
      rw [qL_cons, if_neg (fun e => h2 (.inl e)), if_pos h, if_neg (fun e => h2 (.inr e))]
      rfl
  · rw [if_neg h]
    exact qL_hx n c t
theorem qL_qbs (n : Nat) (t : List UInt8) : ∀ s : List UInt8, qL (n + s.length) (s.flatMap qb ++ t) = preQ s (qL n t)
  | [] => by rw [preQ_nil]; rfl
  | c :: s => by
    rw [List.flatMap_cons, List.length_cons, ← Nat.add_assoc, List.append_assoc, qL_qb, qL_qbs n t s, preQ_cons]
theorem qbs_ge : ∀ s : List UInt8, s.length ≤ (s.flatMap qb).length
  | [] => Nat.le_refl _
  | c :: s => by
    have := qbs_ge s
    have h1 : 1 ≤ (qb c).length := by unfold qb; split <;> (try split) <;> simp
    rw [List.flatMap_cons, List.length_append, List.length_cons]; omega
/-- Bytes that a quoted text may have. -/
def plainL (l : List UInt8) : Prop := ∀ c ∈ l, isPl c = true
theorem qb_plain : ∀ c : UInt8, plainL (qb c) := by
  have h : ∀ i : Fin 256, (qb (UInt8.ofNat i.val)).all isPl = true := by decide +kernel
  intro c x hx
  have := h ⟨c.toNat, c.toNat_lt⟩
  simp only [UInt8.ofNat_toNat] at this
  exact List.all_eq_true.1 this x hx
theorem plain_flat {g : UInt8 → List UInt8} (hg : ∀ c, plainL (g c)) (s : List UInt8) : plainL (s.flatMap g) := fun x hx => by
  obtain ⟨c, _, h⟩ := List.mem_flatMap.1 hx
  exact hg c x h
theorem plain_app {a b : List UInt8} (h : plainL a) (k : plainL b) : plainL (a ++ b) := fun x hx => (List.mem_append.1 hx).elim (h x) (k x)
theorem plain_quote (s : List UInt8) : plainL (quoteB s) := by
  unfold quoteB
  intro x hx
  rcases List.mem_append.1 hx with h | h
  · rcases List.mem_cons.1 h with rfl | h
    · rfl
    · exact plain_flat qb_plain s x h
  · rcases List.mem_singleton.1 h with rfl
    rfl
theorem no10 {l : List UInt8} (h : plainL l) : 10 ∉ l := fun e => by have := h 10 e; revert this; decide
end Go.Proofs.YtepgoehpjafbhaaGreatDoor
/-
  script: Hex (printed by gen_hx.py).
-/
namespace Go.Proofs.YtepgoehpjafbhaaGreatDoor
open Go.RowKit S
set_option linter.unusedVariables false
set_option linter.unusedSimpArgs false
theorem infoH : (Tryz.prog.info? 30).map (·.size) = some 32 := by kernel_rfl
/-- Digit j of a hash. -/
def hexF (h : Nat → UInt8) (j : Nat) : UInt8 := if j % 2 = 0 then hexd ((h (j / 2)).toNat / 16) else hexd ((h (j / 2)).toNat % 16)
def hexL (h : Nat → UInt8) : List UInt8 := (List.range 64).map (hexF h)
theorem hexL_len (h : Nat → UInt8) : (hexL h).length = 64 := by simp [hexL]
def hexC (h : Nat → UInt8) (n : Nat) : Nat → Value := fun j => if j < n then .int .u8 ((hexF h j).toNat : Int) else .int .u8 0
theorem conv_at {w : World} {g : Nat} {t : TypeId} {f : Nat → UInt8} {M : Nat} (h : Has w g t (bv f) M) (m cap : Nat) (hm : m ≤ M) : (convert 24 9 (.slice (some ⟨g, 0, none⟩) m cap)).run Tryz.prog w = .ok (.string (bs ((List.range m).map f))) w := by
  have hr := run_convert_bytes_arg w 24 5 Tryz.underlying24 Tryz.underlying5 g 0 m cap ((List.range m).map fun i => ((f i).toNat : Int)) (by simp) (fun i hi => by
    rw [Nat.zero_add, h.cell i (by omega)]
    simp [hi, bv]) 9 Tryz.underlying9
  have e : strOfNums ((List.range m).map fun i => ((f i).toNat : Int)) = bs ((List.range m).map f) := by
    simp only [strOfNums, List.map_map, Function.comp_def, Int.toNat_natCast]
    simp [bs]
  rw [hr, e]
theorem idxH (f : Nat → Value) (w : World) (k : Nat) (hk : k < 32) : (Instr.index 30 (.agg (tabv f 32)) (.int .i64 (k : Int))).run Tryz.prog w = .ok (f k) w := by
  have h2 : (0 : Int) ≤ (k : Int) ∧ (k : Int) < 32 := by omega
  have h3 := tabv_get f 32 k hk
  simp [Instr.index, asIntOf, run_underlying Tryz.underlying30, h2, part, isAgg, run_underlying Tryz.underlying5, h3]
  omega
theorem hexC_even (h : Nat → UInt8) (k j : Nat) (x y : Value) (hx : x = .int .u8 ((hexd ((h k).toNat / 16)).toNat : Int)) (hy : y = .int .u8 ((hexd ((h k).toNat % 16)).toNat : Int)) : upd (upd (hexC h (2 * k)) (2 * k) x) (2 * k + 1) y j = hexC h (2 * (k + 1)) j := by
  unfold upd hexC
  by_cases e1 : j = 2 * k + 1
  · rw [if_pos e1, if_pos (by omega), hy]
    unfold hexF
    rw [if_neg (by omega), show j / 2 = k by omega]
  · rw [if_neg e1]
    by_cases e2 : j = 2 * k
    · rw [if_pos e2, if_pos (by omega), hx]
      unfold hexF
      rw [if_pos (by omega), show j / 2 = k by omega]
    · rw [if_neg e2]
      by_cases e3 : j < 2 * k
      · rw [if_pos e3, if_pos (by omega)]
      · rw [if_neg e3, if_neg (by omega)]
set_option maxRecDepth 100000 in
set_option maxHeartbeats 1600000 in
theorem hex_any (h : Nat → UInt8) (w : World) : Calls Tryz.prog 13 #[.agg (tabv (bv h) 32)] w fun e w' => e = .returned (.string (bs (hexL h))) ∧ Below w.heap.size w w' := by
  obtain ⟨R, hR⟩ : ∃ R, hexL h = R := ⟨_, rfl⟩
  rw [hR]
  have HR := hide hR
  clear hR
  obtain ⟨w1, hw1⟩ : ∃ x, w.alloc (.cells (tabv (bv h) 32) 30) = x := ⟨_, rfl⟩
  have r1 : Has w1 w.heap.size 30 (bv h) 32 := by rw [← hw1]; exact Has.new w _ _ 32 _ rfl
  have b1 : Below w.heap.size w w1 := by rw [← hw1]; exact (Below.refl _ w).alloc (Nat.le_refl _) _
  have hz : ∀ c : Array Value, c = tabv (hexC h 0) 64 → Has (w1.alloc (.cells c 68)) w1.heap.size 68 (hexC h 0) 64 := fun c hc => Has.new w1 _ _ 64 _ hc
  go_enter Tryz.func13, Tryz.ntmps13
  go_wp2_with (first | rw [hw1] | refine wpW_load_at 30 _ rfl w.heap.size 0 (by rfl) (by rfl) _ 32 _ ((r1.old _).at_ 0 (by omega) (fun i hi => by rw [Nat.zero_add])) Tryz.underlying30 rfl infoH ?_)
  go_loopw [7] (fun i wr => ∃ k : Nat, k ≤ 32 ∧ i = .int .i64 k ∧ Has wr w1.heap.size 68 (hexC h (2 * k)) 64 ∧ Below w1.heap.size w1 wr) (fun i _ => 32 - (Lib.intOf i).toNat)
  case atStart => exact ⟨0, by omega, rfl, hz _ rfl, (Below.refl _ w1).alloc (Nat.le_refl _) _⟩
  case round =>
    obtain ⟨k, hk, rfl, hH, hB⟩ := hrel
    by_cases hlt : k < 32
    · have hd : decide ((k : Int) < 32) = true := decide_eq_true (by omega)
      have hi0 := idxH (bv h) wr k hlt
      have hc4 := UInt8.toNat_lt (h k)
      have hand := bits_and15 (h k)
      have hbv : bv h k = .int .u8 ((h k).toNat : Int) := rfl
      rw [hbv] at hi0
      generalize hck : h k = c at hi0 hc4 hand
      go_wp2_with fail
      have hwk : IntKind.i64.wrap (2 * (k : Int)) = 2 * (k : Int) := by rw [IntKind.wrap_i64]; omega
      have hwk1 : IntKind.i64.wrap (2 * (k : Int) + 1) = 2 * (k : Int) + 1 := by rw [IntKind.wrap_i64]; omega
      refine wp_region_noPanic ?_
      refine wp_region_T (S := fun _ => True) 14 (by kernel_rfl) trivial (fun hHeld => ?_)
      generalize hwq : World.drew wr = wq at hHeld ⊢
      have hHq : Has wq w1.heap.size 68 (hexC h (2 * k)) 64 := by rw [← hwq]; exact hH.drew
      have hBq : Below w1.heap.size w1 wq := by rw [← hwq]; exact hB.drew
      clear hwq hH hB
      refine takeT 0 (some 11) (.int .i64 k) rfl rfl (by kernel_rfl) (by kernel_rfl) (by kernel_rfl) (by kernel_rfl) (by decide) (fun _ _ _ h => h) (by rfl) (fun w_ hw => by first | rfl | (go_simp; done) | (go_simp; rfl)) hHeld ?_
      simp only [Act.put, List.setIfInBounds_toArray, List.set_cons_zero, List.set_cons_succ]
      refine takeT 1 (some 12) (.int .i64 (2 * (k : Int))) rfl rfl (by kernel_rfl) (by kernel_rfl) (by kernel_rfl) (by kernel_rfl) (by decide) (fun _ _ _ h => h) (by rfl) (fun w_ hw => by go_simp) hHeld ?_
      simp only [Act.put, List.setIfInBounds_toArray, List.set_cons_zero, List.set_cons_succ]
      refine takeT 2 (some 13) (.int .i64 k) rfl rfl (by kernel_rfl) (by kernel_rfl) (by kernel_rfl) (by kernel_rfl) (by decide) (fun _ _ _ h => h) (by rfl) (fun w_ hw => by first | rfl | (go_simp; done) | (go_simp; rfl)) hHeld ?_
      simp only [Act.put, List.setIfInBounds_toArray, List.set_cons_zero, List.set_cons_succ]
      refine takeT 3 (some 14) (.int .i64 (2 * (k : Int))) rfl rfl (by kernel_rfl) (by kernel_rfl) (by kernel_rfl) (by kernel_rfl) (by decide) (fun _ _ _ h => h) (by rfl) (fun w_ hw => by go_simp) hHeld ?_
      simp only [Act.put, List.setIfInBounds_toArray, List.set_cons_zero, List.set_cons_succ]
      refine takeT 4 (some 15) (.int .i64 (2 * (k : Int) + 1)) rfl rfl (by kernel_rfl) (by kernel_rfl) (by kernel_rfl) (by kernel_rfl) (by decide) (fun _ _ _ h => h) (by rfl) (fun w_ hw => by go_simp) hHeld ?_
      simp only [Act.put, List.setIfInBounds_toArray, List.set_cons_zero, List.set_cons_succ]
      refine takeT 5 (some 16) (.int .u8 (c.toNat : Int)) rfl rfl (by kernel_rfl) (by kernel_rfl) (by kernel_rfl) (by kernel_rfl) (by decide) (fun _ _ _ h => h) (by rfl) (fun w_ hw => by first | rfl | (go_simp; done) | (go_simp; rfl)) hHeld ?_
      simp only [Act.put, List.setIfInBounds_toArray, List.set_cons_zero, List.set_cons_succ]
      refine takeT 6 (some 17) (.int .u8 ((c.toNat / 16 : Nat) : Int)) rfl rfl (by kernel_rfl) (by kernel_rfl) (by kernel_rfl) (by kernel_rfl) (by decide) (fun _ _ _ h => h) (by rfl) (fun w_ hw => by first | rfl | (go_simp; done) | (go_simp; rfl)) hHeld ?_
      simp only [Act.put, List.setIfInBounds_toArray, List.set_cons_zero, List.set_cons_succ]
      refine takeT 7 (some 18) (.int .u8 ((hexd (c.toNat / 16)).toNat : Int)) rfl rfl (by kernel_rfl) (by kernel_rfl) (by kernel_rfl) (by kernel_rfl) (by decide) (fun _ _ _ h => h) (by rfl) (fun w_ hw => by go_simp; rw [dif_pos ⟨by omega, by omega⟩, digit_at _ (c.toNat / 16) (by omega) (by omega)]; rfl) hHeld ?_
      simp only [Act.put, List.setIfInBounds_toArray, List.set_cons_zero, List.set_cons_succ]
      refine takeT 8 (some 19) (.int .u8 (c.toNat : Int)) rfl rfl (by kernel_rfl) (by kernel_rfl) (by kernel_rfl) (by kernel_rfl) (by decide) (fun _ _ _ h => h) (by rfl) (fun w_ hw => by first | rfl | (go_simp; done) | (go_simp; rfl)) hHeld ?_
      simp only [Act.put, List.setIfInBounds_toArray, List.set_cons_zero, List.set_cons_succ]
      refine takeT 9 (some 20) (.int .u8 ((c.toNat % 16 : Nat) : Int)) rfl rfl (by kernel_rfl) (by kernel_rfl) (by kernel_rfl) (by kernel_rfl) (by decide) (fun _ _ _ h => h) (by rfl) (fun w_ hw => by first | rfl | (go_simp; done) | (go_simp; rfl)) hHeld ?_
      simp only [Act.put, List.setIfInBounds_toArray, List.set_cons_zero, List.set_cons_succ]
      refine takeT 10 (some 21) (.int .u8 ((hexd (c.toNat % 16)).toNat : Int)) rfl rfl (by kernel_rfl) (by kernel_rfl) (by kernel_rfl) (by kernel_rfl) (by decide) (fun _ _ _ h => h) (by rfl) (fun w_ hw => by go_simp; rw [dif_pos ⟨by omega, by omega⟩, digit_at _ (c.toNat % 16) (by omega) (by omega)]; rfl) hHeld ?_
      simp only [Act.put, List.setIfInBounds_toArray, List.set_cons_zero, List.set_cons_succ]
      refine takeT 11 (some 22) (.pointer (some ⟨w1.heap.size, 2 * k, none⟩)) rfl rfl (by kernel_rfl) (by kernel_rfl) (by kernel_rfl) (by kernel_rfl) (by decide) (fun _ _ _ h => h) (by rfl) (fun w_ hw => by go_simp; rw [if_pos ⟨by omega, by omega⟩, show (2 * (k : Int)).toNat = 2 * k by omega]) hHeld ?_
      simp only [Act.put, List.setIfInBounds_toArray, List.set_cons_zero, List.set_cons_succ]
      have c1 := hHq.cell (2 * k) (by omega)
      have f1 := hHq.frozen (2 * k)
      have hH2 := hHq.set (2 * k) (.int .u8 ((hexd (c.toNat / 16)).toNat : Int))
      have c2 := hH2.cell (2 * k + 1) (by omega)
      have f2 := hH2.frozen (2 * k + 1)
      have hH3 := hH2.set (2 * k + 1) (.int .u8 ((hexd (c.toNat % 16)).toNat : Int))
      have HH3 := hide (hH3.congr _ fun j hj => hexC_even h k j _ _ (by rw [hck]) (by rw [hck]))
      have HB3 := hide (Below.setCell (p := ⟨w1.heap.size, 2 * k + 1, none⟩) (Below.setCell (p := ⟨w1.heap.size, 2 * k, none⟩) hBq (Nat.le_refl _) (.int .u8 ((hexd (c.toNat / 16)).toNat : Int))) (Nat.le_refl _) (.int .u8 ((hexd (c.toNat % 16)).toNat : Int)))
      clear hH2 hH3 hBq hHq
      refine readyT 12 (by kernel_rfl) rfl (by rfl) (fun K hK => ?_)
      go_simp
      refine hK.out _ _ (fun _ => trivial) (fun hH => ?_)
      clear hHeld
      have hHeld := hH (by decide)
      clear hK K hH
      refine takeT 13 (some 23) (.pointer (some ⟨w1.heap.size, 2 * k + 1, none⟩)) rfl rfl (by kernel_rfl) (by kernel_rfl) (by kernel_rfl) (by kernel_rfl) (by decide) (fun _ _ _ h => h) (by rfl) (fun w_ hw => by go_simp; rw [if_pos ⟨by omega, by omega⟩, show (2 * (k : Int) + 1).toNat = 2 * k + 1 by omega]) hHeld ?_
      simp only [Act.put, List.setIfInBounds_toArray, List.set_cons_zero, List.set_cons_succ]
      refine readyT 14 (by kernel_rfl) rfl (by rfl) (fun K hK => ?_)
      go_simp
      refine hK.out _ _ (fun x => absurd rfl x) (fun _ => ?_)
      clear hK K hHeld
      refine ⟨by kernel_rfl, ?_⟩
      refine NoPanic.normal ?_
      go_wp2
      refine ⟨⟨k + 1, by omega, by go_num, HH3.out, HB3.out⟩, ?_⟩
      simp [Lib.intOf]; omega
    · have hke : k = 32 := by omega
      have hd : decide ((k : Int) < 32) = false := decide_eq_false (by omega)
      have hH2 : Has wr w1.heap.size 68 (bv (hexF h)) 64 := hH.congr _ fun i hi => by unfold hexC bv; rw [if_pos (by omega)]
      have hcv := conv_at hH2 64 64 (Nat.le_refl _)
      rw [show (List.range 64).map (hexF h) = R from HR.out] at hcv
      have HBB := hide (b1.trans (hB.mono b1.size))
      clear hke hH hH2 hB
      go_wp2
      go_ret
      exact ⟨rfl, HBB.out⟩
end Go.Proofs.YtepgoehpjafbhaaGreatDoor
