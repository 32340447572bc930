/-
  The walk of ShelfGets (printed by gen_gets.py).
-/
import Derived.Test.YtocojkafdgmgdaaDoorPFlip
import Derived.Test.YtocojkafdgmgdaaDoorPRefG
namespace Go.Proofs.YtocojkafdgmgdaaDoor
open Go.RowKit S
set_option linter.unusedVariables false
set_option linter.unusedSimpArgs false
def flip1 (s : Slot) : Slot := ⟨s.idx, flipB 0 s.sec, s.full⟩
theorem flip1_v (s : Slot) (i : Nat) (hi : i < 34) (hne : i ≠ 1) : (flip1 s).v i = s.v i := by
  unfold Slot.v flip1
  by_cases h0 : i = 0
  · rw [if_pos h0, if_pos h0]
  · rw [if_neg h0, if_neg h0]
    by_cases h1 : i < 33
    · rw [if_pos h1, if_pos h1]
      show Value.int .u8 ((flipB 0 s.sec (i - 1)).toNat : Int) = _
      unfold flipB
      rw [if_neg (by omega)]
    · rw [if_neg h1, if_neg h1]
theorem own_head {w w' : World} {g n c : Nat} (h : w'.heap[g]? = w.heap[g]?) : ∀ k, (Value.slice (some ⟨g, 0, none⟩) n c).ownBlock = some k → w'.heap[k]? = w.heap[k]? := fun k hk => by
  have e : g = k := by simpa [Value.ownBlock] using hk
  subst e
  exact h
set_option maxRecDepth 100000 in
set_option maxHeartbeats 8000000 in
theorem gets_walk (ad : Option Addr) (n cap : Nat) (l : List Slot) (hn : l.length = n) (hz0 : n * 48 ≤ 140737488351232) (x : Int) (w : World) (hG : Glob num w) (hS : Slots w ad l) : Calls Tryd.prog 6 #[.slice ad n cap, .int .i64 x] w fun e w' => e = .returned (.bool true) ∧ Below w.heap.size w w' := by
  subst hn
  have kb := Below.refl w.heap.size w
  have hGl := hG
  have sl := hS
  have LD := fun w hS => lend_any ad l.length cap l rfl hz0 w hS
  have G1 := fun ad cap w => get_any ad l.length cap l rfl x w
  have G2 := fun w => rget_any ad l.length cap l rfl x w
  obtain ⟨X, hX⟩ : ∃ X, getA l x = X := ⟨_, rfl⟩
  rw [hX] at G1 G2
  clear hX
  obtain ⟨F, E⟩ := X
  have KP := fun g c1 hc w h1 hm hg h2 => kept_any g ad l.length c1 cap l rfl hz0 hc w h1 hm hg h2
  obtain ⟨l2, hl2⟩ : ∃ l2, l.map flip1 = l2 := ⟨_, rfl⟩
  have hl2n : l2.length = l.length := by rw [← hl2]; simp
  have G3 := fun ad cap w => get_any ad l.length cap l2 hl2n x w
  have G4 := fun ad cap w => rget_any ad l.length cap l2 hl2n x w
  obtain ⟨Y, hY⟩ : ∃ Y, getA l2 x = Y := ⟨_, rfl⟩
  rw [hY] at G3 G4
  clear hY
  obtain ⟨F2, E2⟩ := Y
  have hqf : ∀ w : World, (Op.equalIn 10000 23 (.agg (tabv (bv F) 32)) (.agg (tabv (bv F) 32))).run Tryd.prog w = .ok true w := fun w => by rw [eq26, all_same]
  have hqf2 : ∀ w : World, (Op.equalIn 10000 23 (.agg (tabv (bv F2) 32)) (.agg (tabv (bv F2) 32))).run Tryd.prog w = .ok true w := fun w => by rw [eq26, all_same]
  have hgt := guard26
  have hEE : (E != E) = false := by simp
  obtain ⟨n, hn⟩ : ∃ n, l.length = n := ⟨_, rfl⟩
  rw [hn] at LD G1 G2 KP hl2n G3 G4 hz0 ⊢
  have HN := hide hn
  clear hn
  have LD := hide LD
  have G1 := hide G1
  have G2 := hide G2
  have G3 := hide G3
  have G4 := hide G4
  have KP := hide KP
  have HL2 := hide hl2
  clear hl2 hl2n
  have hni : (n : Int) ≤ 140737488351232 := by omega
  go_enter Tryd.func6, Tryd.ntmps6
  go_wp2_with fail
  refine (pfirst_any _ hGl).mono ?_
  rintro e w1 ⟨rfl, hb2⟩
  have sl := sl.below hb2
  have hGl := hGl.up hb2
  have kb := kb.trans (hb2.mono kb.size)
  clear hb2
  have kbs := kb.size
  go_wp2_with fail
  refine (LD.out _ sl).mono ?_
  rintro e w3 ⟨⟨v5, rfl, ln⟩, hb4⟩
  have sl := sl.below hb4
  have hGl := hGl.up hb4
  have kb := kb.trans (hb4.mono kb.size)
  clear hb4
  have ln := Lent.below ln (Below.refl _ _) (Nat.le_refl _)
  obtain ⟨gg, c1, hv5, hro, hsl5, hmk, hc1, hgl, hgB⟩ := Lent.form ln
  rw [HN.out] at hv5 hmk hc1 hro
  subst hv5
  clear ln
  have hyB : w.heap.size ≤ gg := Nat.le_trans kbs hgB
  have hro := hro.mono (Nat.zero_le _)
  go_wp2_with fail
  refine (G1.out _ _ _ hGl hsl5).mono ?_
  rintro e w5 ⟨rfl, hb6⟩
  have sl := sl.below hb6
  have hsl5 := hsl5.below hb6
  have hro := hro.below hb6 (Nat.le_refl _)
  have hGl := hGl.up hb6
  have kb := kb.trans (hb6.mono kb.size)
  have hmk := hmk.below hb6 hgl
  have hgl := Nat.lt_of_lt_of_le hgl hb6.size
  clear hb6
  have hglA := hgl
  have kbs6 := kb.size
  have hn9 := Has.new w5 23 (fun _ => .int .u8 0) 32 _ rfl
  rw [zero32] at hn9
  obtain ⟨b8, hb8⟩ : ∃ g, w5.heap.size = g := ⟨_, rfl⟩
  obtain ⟨w7, hz10⟩ : ∃ x, (w5.alloc (.cells (tabv (fun _ => .int .u8 0) 32) 23)).setRow w5.heap.size (tabv (bv F) 32) = x := ⟨_, rfl⟩
  have hbx : Below w5.heap.size w5 w7 := by rw [← hz10]; exact below_setRow ((Below.refl _ _).alloc (Nat.le_refl _) _) (Nat.le_refl _) _
  have sl := sl.below hbx
  have hsl5 := hsl5.below hbx
  have hro := hro.below hbx (Nat.le_refl _)
  have hGl := hGl.up hbx
  have kb := kb.trans (hbx.mono kb.size)
  have hmk := hmk.below hbx hgl
  have hgl := Nat.lt_of_lt_of_le hgl hbx.size
  have q6 : Has w7 b8 23 (bv F) 32 := by rw [zero32] at hz10; rw [← hz10, ← hb8]; exact hn9.row _ _ rfl
  rw [zero32] at hz10
  have Hhn9 := hide hn9
  have Hhz10 := hide hz10
  have Hhb8 := hide hb8
  clear hn9 hz10 hb8 hbx
  have hz6 : w.heap.size ≤ b8 := by have := Hhb8.out; omega
  have hne6 : gg ≠ b8 := by have := Hhb8.out; omega
  clear hglA
  go_wp2_with (first | (refine wpList_storeH rfl _ _ rfl rfl w5.heap.size (F) rfl rfl _ Hhn9.out ?_; rw [Hhz10.out]))
  rw [Hhb8.out]
  refine (G2.out _ hGl sl).mono ?_
  rintro e w11 ⟨rfl, hb12⟩
  have sl := sl.below hb12
  have hsl5 := hsl5.below hb12
  have hro := hro.below hb12 (Nat.le_refl _)
  have q6 := q6.below hb12 q6.lt
  have hGl := hGl.up hb12
  have kb := kb.trans (hb12.mono kb.size)
  have hmk := hmk.below hb12 hgl
  have hgl := Nat.lt_of_lt_of_le hgl hb12.size
  clear hb12
  have hglA := hgl
  have kbs8 := kb.size
  have q6A := q6.lt
  have hn15 := Has.new w11 23 (fun _ => .int .u8 0) 32 _ rfl
  rw [zero32] at hn15
  obtain ⟨b14, hb14⟩ : ∃ g, w11.heap.size = g := ⟨_, rfl⟩
  obtain ⟨w13, hz16⟩ : ∃ x, (w11.alloc (.cells (tabv (fun _ => .int .u8 0) 32) 23)).setRow w11.heap.size (tabv (bv F) 32) = x := ⟨_, rfl⟩
  have hbx : Below w11.heap.size w11 w13 := by rw [← hz16]; exact below_setRow ((Below.refl _ _).alloc (Nat.le_refl _) _) (Nat.le_refl _) _
  have sl := sl.below hbx
  have hsl5 := hsl5.below hbx
  have hro := hro.below hbx (Nat.le_refl _)
  have q6 := q6.below hbx q6.lt
  have hGl := hGl.up hbx
  have kb := kb.trans (hbx.mono kb.size)
  have hmk := hmk.below hbx hgl
  have hgl := Nat.lt_of_lt_of_le hgl hbx.size
  have q8 : Has w13 b14 23 (bv F) 32 := by rw [zero32] at hz16; rw [← hz16, ← hb14]; exact hn15.row _ _ rfl
  rw [zero32] at hz16
  have Hhn15 := hide hn15
  have Hhz16 := hide hz16
  have Hhb14 := hide hb14
  clear hn15 hz16 hb14 hbx
  have hz8 : w.heap.size ≤ b14 := by have := Hhb14.out; omega
  have hne68 : b14 ≠ b8 := by have := Hhb14.out; omega
  clear q6A
  have hne8 : gg ≠ b14 := by have := Hhb14.out; omega
  clear hglA
  have Hq6 := hide q6
  have Hq8 := hide q8
  go_wp2_with (first | (refine wpList_storeH rfl _ _ rfl rfl w11.heap.size (F) rfl rfl _ Hhn15.out ?_; rw [Hhz16.out]) | refine wpList_load_part rfl 23 _ rfl b8 0 rfl 23 _ 32 32 _ Hq6.out (by omega) Tryd.underlying23 rfl info26 ((bv F)) (fun i hi => by rw [Nat.zero_add]) ?_ | (rw [Hhb14.out]; refine wpList_load_part rfl 23 _ rfl b14 0 rfl 23 _ 32 32 _ Hq8.out (by omega) Tryd.underlying23 rfl info26 ((bv F)) (fun i hi => by rw [Nat.zero_add]) ?_) | refine wpList_load_part rfl 23 _ rfl b14 0 rfl 23 _ 32 32 _ Hq8.out (by omega) Tryd.underlying23 rfl info26 ((bv F)) (fun i hi => by rw [Nat.zero_add]) ?_ | (rw [Hhb14.out]; refine wpList_load_part rfl 23 _ rfl b8 0 rfl 23 _ 32 32 _ Hq6.out (by omega) Tryd.underlying23 rfl info26 ((bv F)) (fun i hi => by rw [Nat.zero_add]) ?_))
  try rw [Hhb14.out]
  clear Hq6 Hq8
  refine (KP.out _ _ hc1 _ hsl5 hmk hgl sl).mono ?_
  rintro e w17 ⟨rfl, hb18⟩
  have sl := sl.below hb18
  have hsl5 := hsl5.below hb18
  have hro := hro.below hb18 (Nat.le_refl _)
  have q6 := q6.below hb18 q6.lt
  have q8 := q8.below hb18 q8.lt
  have hGl := hGl.up hb18
  have kb := kb.trans (hb18.mono kb.size)
  have hmk := hmk.below hb18 hgl
  have hgl := Nat.lt_of_lt_of_le hgl hb18.size
  clear hb18
  clear sl hmk
  obtain ⟨B2, hB2⟩ : ∃ B, w17.heap.size = B := ⟨_, rfl⟩
  have x6 : b8 < B2 := by rw [← hB2]; exact q6.lt
  have x8 : b14 < B2 := by rw [← hB2]; exact q8.lt
  have x5 : gg < B2 := by rw [← hB2]; exact hgl
  have y5 : w.heap.size ≤ gg := hyB
  have y6 : w.heap.size ≤ B2 := by rw [← hB2]; exact kb.size
  have ne6 : gg ≠ b8 := hne6
  have ne8 : gg ≠ b14 := hne8
  have hSz : B2 ≤ w17.heap.size := by omega
  have ne68 : b14 ≠ b8 := hne68
  have z6 : w.heap.size ≤ b8 := hz6
  have z8 : w.heap.size ≤ b14 := hz8
  clear hB2 hsl5 hgl hgB
  go_wp2
  go_loopw [10, 11] (fun v10 v11 wr => ∃ j : Nat, j ≤ n ∧ v11 = .int .i64 (j : Int) ∧ OwnS 0 wr (.slice (some ⟨gg, 0, none⟩) (n + 1) c1) (halfS flip1 l j ++ [mark]) ∧ OwnS B2 wr v10 ((l.take j).map flip1) ∧ Has wr b8 23 (bv F) 32 ∧ Has wr b14 23 (bv F) 32 ∧ B2 ≤ wr.heap.size ∧ Glob num wr ∧ Below w.heap.size w wr) (fun _ i _ => n - (intOf i).toNat)
  case atStart => exact ⟨0, Nat.zero_le _, rfl, by rw [halfS_zero]; exact hro, OwnS.nil _ _, q6, q8, hSz, hGl, kb⟩
  case round =>
    clear hro q6 q8 hSz hGl kb
    obtain ⟨j, hj, rfl, hro, o10, q6, q8, hSz, hGl, kb⟩ := hrel
    by_cases hlt : j < n
    · have hd : decide ((j : Int) < (n : Int)) = true := decide_eq_true (by omega)
      have hd2 : decide (j < n) = true := decide_eq_true hlt
      have hk0 : (0 : Int) ≤ (j : Int) := by omega
      have hk1 : (j : Int) < (n : Int) := by omega
      obtain ⟨s, hs⟩ : ∃ s, l[j]? = some s := ⟨_, List.getElem?_eq_getElem (by rw [HN.out]; exact hlt)⟩
      have hlen : (halfS flip1 l j ++ [mark]).length = n + 1 := by rw [List.length_append, halfS_length _ _ _ (by rw [HN.out]; exact hj), HN.out]; rfl
      have hsh : (halfS flip1 l j ++ [mark])[j]? = some s := by rw [List.getElem?_append_left (by rw [halfS_length _ _ _ (by rw [HN.out]; exact hj), HN.out]; exact hlt)]; exact halfS_get hs
      obtain ⟨c1j, fzj⟩ := hro.cellAt hlen hsh (q := 1) (by omega)
      have hvs : s.v 1 = .int .u8 ((s.sec 0).toNat : Int) := rfl
      rw [hvs] at c1j
      have hxo : bits .xor .u8 ((s.sec 0).toNat : Int) 1 = (((flip1 s).sec 0).toNat : Int) := flip_byte s.sec 0
      have hvt : (flip1 s).v 1 = .int .u8 (((flip1 s).sec 0).toNat : Int) := rfl
      obtain ⟨Z, hZ⟩ : ∃ Z : Int, (((flip1 s).sec 0).toNat : Int) = Z := ⟨_, rfl⟩
      rw [hZ] at hxo
      obtain ⟨C, hC⟩ : ∃ C : Int, ((s.sec 0).toNat : Int) = C := ⟨_, rfl⟩
      rw [hC] at c1j hxo
      clear hC hvs
      have HZ := hide hZ
      have HSH := hide hsh
      have HLEN := hide hlen
      have HSS := hide hs
      clear hZ hsh hlen hs hvt
      go_wp2
      refine wp_region_drew_tail 12 (by kernel_rfl) (by kernel_rfl) ?_
      simp only [List.take_succ_cons, List.take_zero, List.drop_succ_cons, List.drop_zero]
      iterate 12 (go_big_quiet_step (fail))
      refine wpQuiet_nil ?_
      intro _ hw'
      obtain ⟨nq, rfl⟩ := hw'
      have hbd := belowD (Below.refl wr.heap.size wr) nq
      have hro := hro.below hbd (Nat.le_refl _)
      have o10 := o10.below hbd (Nat.le_refl _)
      have q6 := q6.below hbd q6.lt
      have q8 := q8.below hbd q8.lt
      have kb := kb.trans (hbd.mono kb.size)
      have hSz := Nat.le_trans hSz hbd.size
      generalize World.drewN _ nq = wq at hro o10 q6 q8 kb hSz ⊢
      clear hbd c1j fzj hGl
      obtain ⟨c1j, fzj⟩ := hro.cellAt HLEN.out HSH.out (q := 1) (by omega)
      have hro2 := hro.turned (k := j) (q := 1) (t := flip1 s) HLEN.out HSH.out (by omega) (flip1_v s)
      rw [show (flip1 s).v 1 = .int .u8 Z from by rw [← HZ.out]; rfl] at hro2
      rw [List.set_append_left _ _ (by rw [halfS_length _ _ _ (by rw [HN.out]; exact hj), HN.out]; exact hlt), halfS_step HSS.out] at hro2
      have o10b := o10.otherCell ⟨gg, j * 34 + 1, none⟩ (.int .u8 Z) (fun k hk e => by have := (o10.lt k hk).1; have e : k = gg := e; omega)
      have q6b := q6.other ⟨gg, j * 34 + 1, none⟩ (.int .u8 Z) (fun e => ne6 e.symm)
      have q8b := q8.other ⟨gg, j * 34 + 1, none⟩ (.int .u8 Z) (fun e => ne8 e.symm)
      have kb2 := kb.setCell (p := ⟨gg, j * 34 + 1, none⟩) y5 (.int .u8 Z)
      obtain ⟨w40, hw40⟩ : ∃ y, wq.setCell ⟨gg, j * 34 + 1, none⟩ (.int .u8 Z) = y := ⟨_, rfl⟩
      have hSz2 : B2 ≤ w40.heap.size := by rw [← hw40]; simpa using hSz
      rw [hw40] at hro2 o10b q6b q8b kb2
      obtain ⟨v9, w41, w42, hA1, hA2, o9, hkeep, hbl⟩ := appS_step w40 B2 u10 ((l.take j).map flip1) (flip1 s) o10b (by rw [List.length_map, List.length_take, HN.out]; omega) hSz2
      rw [← take_step HSS.out] at o9
      have hro3 : OwnS 0 w42 (.slice (some ⟨gg, 0, none⟩) (n + 1) c1) (halfS flip1 l (j + 1) ++ [mark]) := hro2.same (own_head (hbl.block gg x5))
      have q6n := q6b.below hbl x6
      have q8n := q8b.below hbl x8
      have kbn := kb2.trans (hbl.mono y6)
      have hSzn := Nat.le_trans hSz2 hbl.size
      have hGn : Glob num w42 := hG.up kbn
      obtain ⟨adh, ch, eh, sh, -, -⟩ := hro2.slots
      have hlen2 : (halfS flip1 l (j + 1) ++ [mark]).length = n + 1 := by rw [List.length_append, halfS_length _ _ _ (by rw [HN.out]; exact hlt), HN.out]; rfl
      rw [hlen2] at eh
      cases eh
      obtain ⟨b7, o7, e7, -, hA7⟩ := sh.get j (flip1 s) (by rw [← halfS_step HSS.out, List.getElem?_append_left (by rw [List.length_set, halfS_length _ _ _ (by rw [HN.out]; exact hj), HN.out]; exact hlt), List.getElem?_set, if_pos rfl, if_pos (by rw [halfS_length _ _ _ (by rw [HN.out]; exact hj), HN.out]; exact hlt)])
      cases e7
      rw [Nat.zero_add] at hA7
      have HA7 := hide hA7
      have HA1 := hide hA1
      have HA2 := hide hA2
      have HO9 := hide o9
      have HRO3 := hide hro3
      clear hA7 hA1 hA2 o9 hro hro2 hro3 o10 o10b q6 q8 q6b q8b kb kb2 hkeep hbl sh hlen2
      go_wp2_with (first | refine wpW_load_at 37 _ rfl gg (j * 34) (by rfl) (by rfl) _ 34 _ HA7.out Tryd.underlying37 rfl infoS ?_ | refine wpList_slice1 rfl 25 _ rfl (.agg (tabv (Slot.v (flip1 s)) 34)) rfl HA1.out ?_ | refine wpList_app rfl _ _ _ rfl HA2.out ?_)
      go_roundw
      case rel => exact ⟨j + 1, by omega, by go_num, HRO3.out, HO9.out, q6n, q8n, hSzn, hGn, kbn⟩
      case measure => simp [intOf]; omega
    · have hjn : j = n := by omega
      subst hjn
      have hd : decide ((j : Int) < (j : Int)) = false := decide_eq_false (by omega)
      have hd2 : decide (j < j) = false := decide_eq_false (by omega)
      have hfull : halfS flip1 l j = l2 := by rw [← HL2.out, ← HN.out]; exact halfS_all _ _
      have htake : (l.take j).map flip1 = l2 := by rw [← HL2.out, ← HN.out, List.take_length]
      rw [hfull] at hro
      rw [htake] at o10
      have hl2n : l2.length = j := by rw [← HL2.out, List.length_map, HN.out]
      have ln : Lent 0 wr (.slice (some ⟨gg, 0, none⟩) j c1) l2 := ⟨gg, c1, by rw [hl2n], by rw [hl2n]; exact hro⟩
      obtain ⟨g9, c9, e9, -, s5, -⟩ := Lent.form ln
      rw [hl2n] at e9
      cases e9
      clear ln hro
      obtain ⟨ad10, cap10, rfl, -, -⟩ := o10.slotsN hl2n
      go_wp2_with fail
      refine (G3.out _ _ _ hGl s5).mono ?_
      rintro e w601 ⟨rfl, hb602⟩
      have q6 := q6.below hb602 q6.lt
      have q8 := q8.below hb602 q8.lt
      have o10 := o10.below hb602 (Nat.le_refl _)
      have s5 := s5.below hb602
      have hGl := hGl.up hb602
      have kb := kb.trans (hb602.mono kb.size)
      clear hb602
      clear s5
      obtain ⟨w603, hz6⟩ : ∃ y, w601.setRow b8 (tabv (bv F2) 32) = y := ⟨_, rfl⟩
      have q6n : Has w603 b8 23 (bv F2) 32 := by rw [← hz6]; exact q6.row _ _ rfl
      have q8n2 : Has w603 b14 23 (bv F) 32 := by rw [← hz6]; exact q8.row_other _ _ ne68
      have o10n : OwnS B2 w603 (.slice ad10 j cap10) l2 := o10.same (fun k hk => by rw [← hz6]; exact setRow_other _ _ _ _ (by have := (o10.lt k hk).1; omega))
      have kbn : Below w.heap.size w w603 := by rw [← hz6]; exact below_setRow kb z6 _
      have H6z := hide hz6
      have H6o := hide q6
      clear hz6 q6 q8 o10 kb hGl
      have q6 := q6n
      have q8 := q8n2
      have o10 := o10n
      have kb := kbn
      have hGl : Glob num w603 := hG.up kb
      clear q6n q8n2 o10n kbn
      obtain ⟨adx, capx, ex, sx, -, -⟩ := o10.slotsN hl2n
      cases ex
      go_wp2_with (first | (refine wpList_storeH rfl _ _ rfl rfl b8 F2 rfl rfl _ H6o.out ?_; rw [H6z.out]))
      refine (G4.out _ _ _ hGl sx).mono ?_
      rintro e w604 ⟨rfl, hb605⟩
      have q6 := q6.below hb605 q6.lt
      have q8 := q8.below hb605 q8.lt
      have o10 := o10.below hb605 (Nat.le_refl _)
      have sx := sx.below hb605
      have hGl := hGl.up hb605
      have kb := kb.trans (hb605.mono kb.size)
      clear hb605
      clear sx
      obtain ⟨w606, hz8⟩ : ∃ y, w604.setRow b14 (tabv (bv F2) 32) = y := ⟨_, rfl⟩
      have q8n : Has w606 b14 23 (bv F2) 32 := by rw [← hz8]; exact q8.row _ _ rfl
      have q6n2 : Has w606 b8 23 (bv F2) 32 := by rw [← hz8]; exact q6.row_other _ _ ne68.symm
      have o10n : OwnS B2 w606 (.slice ad10 j cap10) l2 := o10.same (fun k hk => by rw [← hz8]; exact setRow_other _ _ _ _ (by have := (o10.lt k hk).1; omega))
      have kbn : Below w.heap.size w w606 := by rw [← hz8]; exact below_setRow kb z8 _
      have H8z := hide hz8
      have H8o := hide q8
      clear hz8 q6 q8 o10 kb hGl
      have q8 := q8n
      have q6 := q6n2
      have o10 := o10n
      have kb := kbn
      have hGl : Glob num w606 := hG.up kb
      clear q8n q6n2 o10n kbn
      have Hq6 := hide q6
      have Hq8 := hide q8
      go_wp2_with (first | (refine wpList_storeH rfl _ _ rfl rfl b14 F2 rfl rfl _ H8o.out ?_; rw [H8z.out]) | refine wpList_load_part rfl 23 _ rfl b8 0 rfl 23 _ 32 32 _ Hq6.out (by omega) Tryd.underlying23 rfl info26 (bv F2) (fun i hi => by rw [Nat.zero_add]) ?_ | refine wpList_load_part rfl 23 _ rfl b14 0 rfl 23 _ 32 32 _ Hq8.out (by omega) Tryd.underlying23 rfl info26 (bv F2) (fun i hi => by rw [Nat.zero_add]) ?_)
      go_ret
      exact ⟨by simp, kb⟩
end Go.Proofs.YtocojkafdgmgdaaDoor
