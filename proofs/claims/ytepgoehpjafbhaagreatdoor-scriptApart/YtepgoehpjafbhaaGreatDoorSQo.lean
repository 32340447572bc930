/-
  script: Quote (printed by gen_qu.py).
-/
import Derived.Test.YtepgoehpjafbhaaGreatDoorSWh
namespace Go.Proofs.YtepgoehpjafbhaaGreatDoor
open Go.RowKit S
set_option linter.unusedVariables false
set_option linter.unusedSimpArgs false
def hexd (n : Nat) : UInt8 := digs.getD n 0
def qb (c : UInt8) : List UInt8 := if isPl c then (if c = 34 ∨ c = 92 then [92, c] else [c]) else [92, 120, hexd (c.toNat / 16), hexd (c.toNat % 16)]
def quoteB (s : List UInt8) : List UInt8 := 34 :: s.flatMap qb ++ [34]
theorem qb_len (c : UInt8) : (qb c).length ≤ 4 := by
  unfold qb
  split
  · split <;> simp
  · simp
theorem qf_len : ∀ s : List UInt8, (s.flatMap qb).length ≤ 4 * s.length
  | [] => Nat.le_refl _
  | c :: t => by rw [List.flatMap_cons, List.length_append, List.length_cons]; have := qb_len c; have := qf_len t; omega
theorem appK (w : World) (B : Nat) (v : Value) (l news : List UInt8) (h : Cu.Bytes w B v l) (hl : l.length + news.length ≤ 140737488355328) (hB : B ≤ w.heap.size) :
    ∃ v' w', (Builtin.append_ #[24, 24] 24 #[v, .slice (some ⟨w.heap.size, 0, none⟩) news.length news.length]).run Tryz.prog (w.alloc (.cells (news.map Cu.byteV).toArray 5)) = .ok v' w' ∧ Cu.Bytes w' B v' (l ++ news) ∧ Below B w w' ∧ ∃ ad cap, v' = .slice ad (l.length + news.length) cap := by
  have b1 : Below w.heap.size w (w.alloc (.cells (news.map Cu.byteV).toArray 5)) := (Below.refl _ w).alloc (Nat.le_refl _) _
  have h1 : Cu.Bytes (w.alloc (.cells (news.map Cu.byteV).toArray 5)) B v l := World.ownsRow.kept h (World.grownBy_alloc w _ none) (by cases v.ownBlock <;> simp)
  have hsrc : Src Tryz.prog 1 24 (.slice (some ⟨w.heap.size, 0, none⟩) news.length news.length) news.length (news.map Cu.byteV) (w.alloc (.cells (news.map Cu.byteV).toArray 5)) :=
    Src.ofSlice _ Tryz.underlying24 ⟨w.heap.size, 0, none⟩ _ _ _ (by simp) (fun j u hu => World.news_of_block (heap_alloc_new w _) j u hu) (fun u hu => by
      obtain ⟨_, _, rfl⟩ := List.mem_map.1 hu
      rfl)
  obtain ⟨v2, w2, e2, hB2, hMv⟩ := Cu.run_append_bytes _ B 24 24 v l news h1 _ hsrc hl (Nat.le_trans hB b1.size)
  obtain ⟨ad, cap, hv⟩ := bytes_len hB2
  refine ⟨v2, w2, e2, hB2, ?_, ad, cap, by rw [hv, List.length_append]⟩
  have hr : ∀ k, v.ownBlock = some k → B ≤ k := fun k e => (World.ownsRow.lt h k e).1
  exact ⟨hMv.gr.os.trans b1.os, hMv.gr.tape.trans b1.tape, hMv.gr.output.trans b1.output, Nat.le_trans b1.size hMv.gr.size, fun k hk => (hMv.gr.block k (by have := b1.size; omega) (fun e => by have := hr k e.symm; omega)).trans (b1.block k (by omega))⟩
theorem bytes_new (w : World) (c : UInt8) : Cu.Bytes (w.alloc (.cells #[Cu.byteV c] 5)) w.heap.size (.slice (some ⟨w.heap.size, 0, none⟩) 1 1) [c] :=
  ⟨rfl, .inr ⟨w.heap.size, 1, #[Cu.byteV c], rfl, Nat.le_refl _, heap_alloc_new w _, Nat.le_refl _, by decide, rfl, rfl⟩⟩
theorem bits_and15 (c : UInt8) : bits BinOp.and IntKind.u8 (c.toNat : Int) 15 = ((c.toNat % 16 : Nat) : Int) := all_u8 (fun c => bits BinOp.and IntKind.u8 (c.toNat : Int) 15 = ((c.toNat % 16 : Nat) : Int)) (by decide +kernel) c
theorem digit_at (x : Int) (i : Nat) (hx : x = i) (hi : i < 16) (h : x.toNat < (⟨#[48, 49, 50, 51, 52, 53, 54, 55, 56, 57, 97, 98, 99, 100, 101, 102]⟩ : ByteArray).size) : (⟨#[48, 49, 50, 51, 52, 53, 54, 55, 56, 57, 97, 98, 99, 100, 101, 102]⟩ : ByteArray)[x.toNat]'h = hexd i :=
  (bs_at digs i x hx h).trans (by unfold hexd; rw [List.getD_eq_getElem?_getD])
theorem cuS {w : World} {B : Nat} {v : Value} {l : List UInt8} (h : Cu.Bytes w B v l) : (convert 24 9 v).run Tryz.prog w = .ok (.string (bs l)) w := by
  obtain ⟨ad, n, cap, rfl, e⟩ := Bytes.toS (w := w) (B := B) (v := v) (l := l) h
  exact e
set_option maxRecDepth 100000 in
set_option maxHeartbeats 1600000 in
theorem quote_any (s : List UInt8) (w : World) (hs : s.length ≤ 1000000) : Calls Tryz.prog 10 #[.string (bs s)] w fun e w' => e = .returned (.string (bs (quoteB s))) ∧ Below w.heap.size w w' := by
  have hz := bs_size s
  obtain ⟨R, hR⟩ : ∃ R, quoteB s = R := ⟨_, rfl⟩
  rw [hR]
  have HR : Hid (R = 34 :: s.flatMap qb ++ [34]) := hide hR.symm
  have hql := qf_len s
  clear hR
  go_enter Tryz.func10, Tryz.ntmps10
  go_wp2
  go_loopw [3, 9] (fun v i wr => ∃ k : Nat, k ≤ s.length ∧ i = .int .i64 k ∧ Cu.Bytes wr w.heap.size v (34 :: (s.take k).flatMap qb) ∧ Below w.heap.size w wr) (fun _ i _ => s.length - (Lib.intOf i).toNat)
  case atStart => exact ⟨0, by omega, rfl, bytes_new w 34, (Below.refl _ w).alloc (Nat.le_refl _) _⟩
  case round =>
    obtain ⟨k, hk, rfl, hBy, hBl⟩ := hrel
    have hsz := hBl.size
    have hkl : (s.take k).length = k := by rw [List.length_take]; omega
    have hqk := qf_len (s.take k)
    rw [hkl] at hqk
    by_cases hlt : k < s.length
    · have hd : decide ((k : Int) < (s.length : Int)) = true := decide_eq_true (by omega)
      obtain ⟨c, hc⟩ : ∃ c, s[k] = c := ⟨_, rfl⟩
      have hx : s[k]? = some c := by rw [List.getElem?_eq_getElem hlt, hc]
      have hT : 34 :: (s.take (k + 1)).flatMap qb = (34 :: (s.take k).flatMap qb) ++ qb c := by
        rw [List.take_add_one, hx, Option.toList_some, List.flatMap_append]
        simp
      have hat : ∀ h : k < (bs s).size, (bs s)[k]'h = c := fun h => hc
      clear hc
      have HT := hide hT
      obtain ⟨A, hA⟩ : ∃ A, 34 :: (s.take k).flatMap qb = A := ⟨_, rfl⟩
      have hAl : A.length ≤ 4 * k + 1 := by rw [← hA, List.length_cons]; omega
      rw [hA] at hBy HT
      clear hT hx hA
      obtain ⟨ad, cap, rfl⟩ := bytes_len hBy
      go_wp2_with fail
      refine (isPlain_any c _).mono ?_
      rintro e w1 ⟨rfl, rfl⟩
      clear hat
      cases hpl : isPl c with
      | false =>
        have hqb : qb c = [92, 120, hexd (c.toNat / 16), hexd (c.toNat % 16)] := by unfold qb; rw [if_neg (by rw [hpl]; decide)]
        rw [hqb] at HT
        clear hpl hqb
        go_wp2_with fail
        refine wp_region_noPanic ?_
        have hc4 := UInt8.toNat_lt c
        have hand := bits_and15 c
        refine wp_region_T (S := fun _ => True) 9 (by kernel_rfl) trivial (fun hHeld => ?_)
        generalize hwq : World.drew w1 = wq at hHeld ⊢
        refine takeT 0 (some 26) (.slice ad A.length cap) rfl rfl (by kernel_rfl) (by kernel_rfl) (by kernel_rfl) (by kernel_rfl) (by decide) (fun _ _ _ h => h) (by rfl) (fun w_ hw => by first | rfl | (go_simp; done) | (go_simp; rfl)) hHeld ?_
        simp only [Act.put, List.setIfInBounds_toArray, List.set_cons_zero, List.set_cons_succ]
        refine takeT 1 (some 27) (.int .u8 (c.toNat : Int)) rfl rfl (by kernel_rfl) (by kernel_rfl) (by kernel_rfl) (by kernel_rfl) (by decide) (fun _ _ _ h => h) (by rfl) (fun w_ hw => by first | rfl | (go_simp; done) | (go_simp; rfl)) hHeld ?_
        simp only [Act.put, List.setIfInBounds_toArray, List.set_cons_zero, List.set_cons_succ]
        refine takeT 2 (some 28) (.int .u8 ((c.toNat / 16 : Nat) : Int)) rfl rfl (by kernel_rfl) (by kernel_rfl) (by kernel_rfl) (by kernel_rfl) (by decide) (fun _ _ _ h => h) (by rfl) (fun w_ hw => by first | rfl | (go_simp; done) | (go_simp; rfl)) hHeld ?_
        simp only [Act.put, List.setIfInBounds_toArray, List.set_cons_zero, List.set_cons_succ]
        refine takeT 3 (some 29) (.int .u8 ((hexd (c.toNat / 16)).toNat : Int)) rfl rfl (by kernel_rfl) (by kernel_rfl) (by kernel_rfl) (by kernel_rfl) (by decide) (fun _ _ _ h => h) (by rfl) (fun w_ hw => by go_simp; rw [dif_pos ⟨by omega, by omega⟩, digit_at _ (c.toNat / 16) (by omega) (by omega)]; rfl) hHeld ?_
        simp only [Act.put, List.setIfInBounds_toArray, List.set_cons_zero, List.set_cons_succ]
        refine takeT 4 (some 30) (.int .u8 (c.toNat : Int)) rfl rfl (by kernel_rfl) (by kernel_rfl) (by kernel_rfl) (by kernel_rfl) (by decide) (fun _ _ _ h => h) (by rfl) (fun w_ hw => by first | rfl | (go_simp; done) | (go_simp; rfl)) hHeld ?_
        simp only [Act.put, List.setIfInBounds_toArray, List.set_cons_zero, List.set_cons_succ]
        refine takeT 5 (some 31) (.int .u8 ((c.toNat % 16 : Nat) : Int)) rfl rfl (by kernel_rfl) (by kernel_rfl) (by kernel_rfl) (by kernel_rfl) (by decide) (fun _ _ _ h => h) (by rfl) (fun w_ hw => by first | rfl | (go_simp; done) | (go_simp; rfl)) hHeld ?_
        simp only [Act.put, List.setIfInBounds_toArray, List.set_cons_zero, List.set_cons_succ]
        refine takeT 6 (some 32) (.int .u8 ((hexd (c.toNat % 16)).toNat : Int)) rfl rfl (by kernel_rfl) (by kernel_rfl) (by kernel_rfl) (by kernel_rfl) (by decide) (fun _ _ _ h => h) (by rfl) (fun w_ hw => by go_simp; rw [dif_pos ⟨by omega, by omega⟩, digit_at _ (c.toNat % 16) (by omega) (by omega)]; rfl) hHeld ?_
        simp only [Act.put, List.setIfInBounds_toArray, List.set_cons_zero, List.set_cons_succ]
        have hByq : Cu.Bytes wq w.heap.size (.slice ad A.length cap) A := by rw [← hwq]; exact hBy
        have hBlq : Below w.heap.size w wq := by rw [← hwq]; exact hBl.drew
        obtain ⟨v2, w2, e2, hB2, b2, ad2, cap2, hv2⟩ := appK wq w.heap.size _ A [92, 120, hexd (c.toNat / 16), hexd (c.toNat % 16)] hByq (by simp; omega) hBlq.size
        subst hv2
        rw [← HT.out] at hB2
        have HB2 := hide hB2
        have HBl2 := hide (hBlq.trans b2)
        clear hB2 b2 hBlq hByq hwq
        refine readyT 7 (by kernel_rfl) rfl (by rfl) (fun K hK => ?_)
        go_simp
        refine hK.out _ _ (fun _ => trivial) (fun hH => ?_)
        clear hHeld
        have hHeld := hH (by decide)
        clear hK K hH
        refine readyT 8 (by kernel_rfl) rfl (by rfl) (fun K hK => ?_)
        refine wp_app _ _ _ rfl e2 (some 34) rfl ?_
        simp only [Act.put, List.setIfInBounds_toArray, List.set_cons_zero, List.set_cons_succ]
        refine hK.out _ _ (fun _ => trivial) (fun hH => ?_)
        clear hHeld
        have hHeld := hH (by decide)
        clear hK K hH
        refine readyT 9 (by kernel_rfl) rfl (by rfl) (fun K hK => ?_)
        go_simp
        refine hK.out _ _ (fun x => absurd rfl x) (fun _ => ?_)
        clear hK K hHeld
        refine ⟨by kernel_rfl, ?_⟩
        refine NoPanic.normal ?_
        go_wp2
        refine ⟨⟨k + 1, by omega, by go_num, HB2.out, HBl2.out⟩, ?_⟩
        simp [Lib.intOf]; omega
      | true =>
        by_cases h34 : c = 34 ∨ c = 92
        · have hqb : qb c = [92, c] := by unfold qb; rw [if_pos hpl, if_pos h34]
          rw [hqb] at HT
          obtain ⟨v2, w2, e2, hB2, b2, ad2, cap2, hv2⟩ := appK w1 w.heap.size _ A [92] hBy (by simp; omega) hsz
          obtain ⟨v3, w3, e3, hB3, b3, ad3, cap3, hv3⟩ := appK w2 w.heap.size _ (A ++ [92]) [c] hB2 (by simp; omega) (by have := b2.size; omega)
          subst hv2 hv3
          rw [List.append_assoc] at hB3
          change Cu.Bytes w3 w.heap.size _ (A ++ [92, c]) at hB3
          rw [← HT.out] at hB3
          have HB3 : Hid (Cu.Bytes w3 w.heap.size (.slice ad3 (A.length + 1 + 1) cap3) (34 :: (s.take (k + 1)).flatMap qb)) := hide (by rw [List.length_append] at hB3; exact hB3)
          have HBl3 := hide ((hBl.trans b2).trans b3)
          have hor : ((c.toNat : Int) == 34) = true ∨ (((c.toNat : Int) == 34) = false ∧ ((c.toNat : Int) == 92) = true) := by
            rcases h34 with rfl | rfl
            · exact .inl rfl
            · exact .inr ⟨rfl, rfl⟩
          clear hpl hqb hB2 b2 hB3 b3 hBl h34
          rcases hor with h1 | ⟨h1, h2⟩
          · go_wp2_with (at_builtin; first | refine wpList_app rfl _ _ _ rfl e2 ?_ | refine wpList_app rfl _ _ _ rfl e3 ?_)
            refine ⟨⟨k + 1, by omega, by go_num, HB3.out, HBl3.out⟩, ?_⟩
            simp [Lib.intOf]; omega
          · go_wp2_with (at_builtin; first | refine wpList_app rfl _ _ _ rfl e2 ?_ | refine wpList_app rfl _ _ _ rfl e3 ?_)
            refine ⟨⟨k + 1, by omega, by go_num, HB3.out, HBl3.out⟩, ?_⟩
            simp [Lib.intOf]; omega
        · have hqb : qb c = [c] := by unfold qb; rw [if_pos hpl, if_neg h34]
          rw [hqb] at HT
          obtain ⟨v2, w2, e2, hB2, b2, ad2, cap2, hv2⟩ := appK w1 w.heap.size _ A [c] hBy (by simp; omega) hsz
          subst hv2
          rw [← HT.out] at hB2
          have HB2 := hide hB2
          have HBl2 := hide (hBl.trans b2)
          have h1 : ((c.toNat : Int) == 34) = false := by rw [beq_eq_false_iff_ne]; exact fun e => h34 (.inl (u8_of_int c 34 e))
          have h2 : ((c.toNat : Int) == 92) = false := by rw [beq_eq_false_iff_ne]; exact fun e => h34 (.inr (u8_of_int c 92 e))
          clear hpl hqb hB2 b2 hBl h34
          go_wp2_with (at_builtin; refine wpList_app rfl _ _ _ rfl e2 ?_)
          refine ⟨⟨k + 1, by omega, by go_num, HB2.out, HBl2.out⟩, ?_⟩
          simp [Lib.intOf]; omega
    · have hke : k = s.length := by omega
      have hd : decide ((k : Int) < (s.length : Int)) = false := decide_eq_false (by omega)
      rw [hke, List.take_length] at hBy
      obtain ⟨A, hA⟩ : ∃ A, 34 :: s.flatMap qb = A := ⟨_, rfl⟩
      have hAl : A.length ≤ 4 * s.length + 1 := by rw [← hA, List.length_cons]; omega
      have HR2 : Hid (R = A ++ [34]) := hide (by rw [HR.out, ← hA])
      rw [hA] at hBy
      clear hA
      obtain ⟨v2, w2, e2, hB2, b2, ad2, cap2, hv2⟩ := appK wr w.heap.size _ A [34] hBy (by simp; omega) hsz
      subst hv2
      have HB2 := hide (hBl.trans b2)
      have hcv : (convert 24 9 (.slice ad2 (A.length + 1) cap2)).run Tryz.prog w2 = .ok (.string (bs R)) w2 := by rw [HR2.out]; exact cuS hB2
      clear hke hB2 b2 hBl
      go_wp2_with (at_builtin; refine wpList_app rfl _ _ _ rfl e2 ?_)
      go_ret
      exact ⟨rfl, HB2.out⟩
end Go.Proofs.YtepgoehpjafbhaaGreatDoor
