/-
  The walk of ShelfPuts (printed by gen_puts.py).
-/
import Derived.Test.YtocojkafdgmgdaaDoorPFlip
import Derived.Test.YtocojkafdgmgdaaDoorPRefP
namespace Go.Proofs.YtocojkafdgmgdaaDoor
open Go.RowKit S
set_option linter.unusedVariables false
set_option linter.unusedSimpArgs false
def flip2 (s : Slot) : Slot := ⟨s.idx, s.sec, !s.full⟩
theorem flip2_v (s : Slot) (i : Nat) (hi : i < 34) (hne : i ≠ 33) : (flip2 s).v i = s.v i := by
  unfold Slot.v flip2
  by_cases h0 : i = 0
  · rw [if_pos h0, if_pos h0]
  · rw [if_neg h0, if_neg h0, if_pos (by omega), if_pos (by omega)]
theorem own_head {w w' : World} {g n c : Nat} (h : w'.heap[g]? = w.heap[g]?) : ∀ k, (Value.slice (some ⟨g, 0, none⟩) n c).ownBlock = some k → w'.heap[k]? = w.heap[k]? := fun k hk => by
  have e : g = k := by simpa [Value.ownBlock] using hk
  subst e
  exact h
theorem OwnS.storeAt {B m cap : Nat} {w : World} {ad : Option Addr} {la : List Slot} (h : OwnS B w (.slice ad m cap) la) (hl : la.length = m) {j : Nat} (hj : j < m) : ∃ g f, ad = some ⟨g, 0, none⟩ ∧ Has w g 37 f (cap * 34) ∧ m ≤ cap ∧ ∀ s : Slot, OwnS B (w.setRow g (tabv (splice f (j * 34) s.v 34) (cap * 34))) (.slice ad m cap) (la.set j s) := by
  obtain ⟨h1, ⟨_, h2⟩ | ⟨g, c, cur, e, hb, hg, hnc, hcm, hcs, htake⟩⟩ := h
  · omega
  · rw [hl] at e hnc htake h1
    cases e
    have ht : cur = tabv (fun i => cur.getD i undef) (cap * 34) := tabv_ext _ _ _ hcs fun i hi => by
      rw [Array.getD_eq_getD_getElem?, Array.getElem?_eq_getElem (by omega)]; rfl
    have hH : Has w g 37 (fun i => cur.getD i undef) (cap * 34) := by unfold Has; rw [← ht]; exact hg
    refine ⟨g, _, rfl, hH, hnc, fun s => ?_⟩
    have hn := hH.row (tabv (splice (fun i => cur.getD i undef) (j * 34) s.v 34) (cap * 34)) (splice (fun i => cur.getD i undef) (j * 34) s.v 34) rfl
    unfold OwnS
    rw [List.length_set, hl]
    refine ⟨by rw [cellsS_length, List.length_set, hl], .inr ⟨g, cap, _, rfl, hb, hn, hnc, hcm, tabv_size _ _, ?_⟩⟩
    apply List.ext_getElem?
    intro i
    rw [List.getElem?_take]
    by_cases hi : i < m * 34
    · rw [if_pos hi, Array.getElem?_toList, tabv_get _ _ _ (by omega)]
      unfold splice
      by_cases hk : j * 34 ≤ i ∧ i < j * 34 + 34
      · rw [if_pos hk]
        have := cellsS_get (la.set j s) j s (by rw [List.getElem?_set, if_pos rfl, if_pos (by omega)]) (i - j * 34) (by omega)
        rw [show j * 34 + (i - j * 34) = i by omega] at this
        exact this.symm
      · rw [if_neg hk]
        have hki : i / 34 < la.length := by omega
        obtain ⟨u, hu⟩ : ∃ u, la[i / 34]? = some u := ⟨_, List.getElem?_eq_getElem hki⟩
        have e1 := cellsS_get (la.set j s) (i / 34) u (by rw [List.getElem?_set, if_neg (by omega)]; exact hu) (i % 34) (by omega)
        have e2 := cellsS_get la (i / 34) u hu (i % 34) (by omega)
        rw [show i / 34 * 34 + i % 34 = i by omega] at e1 e2
        rw [e1, ← e2, ← htake, List.getElem?_take, if_pos hi, Array.getElem?_toList, Array.getElem?_eq_getElem (by omega)]
        show some (cur.getD i undef) = some cur[i]
        rw [Array.getD_eq_getD_getElem?, Array.getElem?_eq_getElem (by omega)]
        rfl
    · rw [if_neg hi, List.getElem?_eq_none (by rw [cellsS_length, List.length_set, hl]; omega)]
theorem put_len (l : List Slot) (x : Int) (h : Nat → UInt8) : (putA l x h).1.length ≤ 49 := by
  unfold putA
  split
  · simp
  · split
    · simp
    · split
      · rw [withA_length]; omega
      · simp
set_option maxRecDepth 100000 in
set_option maxHeartbeats 8000000 in
theorem puts_walk (ad : Option Addr) (n cap : Nat) (l : List Slot) (hn : l.length = n) (hz0 : n * 48 ≤ 140737488351232) (x : Int) (h : Nat → UInt8) (w : World) (hG : Glob num w) (hS : Slots w ad l) : Calls Tryd.prog 7 #[.slice ad n cap, .int .i64 x, .agg (tabv (bv h) 32)] w fun e w' => e = .returned (.bool true) ∧ Below w.heap.size w w' := by
  subst hn
  obtain ⟨w0, hW0⟩ : ∃ y, w.alloc (.cells (tabv (bv h) 32) 23) = y := ⟨_, rfl⟩
  have q0 : Has w0 w.heap.size 23 (bv h) 32 := by rw [← hW0]; exact Has.new w 23 (bv h) 32 _ rfl
  have kb : Below w.heap.size w w0 := by rw [← hW0]; exact (Below.refl w.heap.size w).alloc (Nat.le_refl _) _
  have hGl : Glob num w0 := hG.below kb hG.2.2
  have sl := hS.below kb
  obtain ⟨b0, hb0⟩ : ∃ y, w.heap.size = y := ⟨_, rfl⟩
  rw [hb0] at q0
  have LD := fun w hS => lend_any ad l.length cap l rfl hz0 w hS
  have P1 := fun ad cap w => put_any ad l.length cap l rfl x h w
  have P2 := fun w => rput_any ad l.length cap l rfl x h w
  have hX := put_len l x h
  obtain ⟨X, hXX⟩ : ∃ X, putA l x h = X := ⟨_, rfl⟩
  rw [hXX] at P1 P2 hX
  clear hXX
  obtain ⟨M, E⟩ := X
  have hM : M.length ≤ 49 := hX
  clear hX
  have KP := fun g c1 hc w h1 hm hg h2 => kept_any g ad l.length c1 cap l rfl hz0 hc w h1 hm hg h2
  obtain ⟨l2, hl2⟩ : ∃ l2, l.map flip2 = l2 := ⟨_, rfl⟩
  have hl2n : l2.length = l.length := by rw [← hl2]; simp
  have P3 := fun ad cap w => put_any ad l.length cap l2 hl2n x h w
  have P4 := fun ad cap w => rput_any ad l.length cap l2 hl2n x h w
  have hY := put_len l2 x h
  obtain ⟨Y, hYY⟩ : ∃ Y, putA l2 x h = Y := ⟨_, rfl⟩
  rw [hYY] at P3 P4 hY
  clear hYY
  obtain ⟨M2, E2⟩ := Y
  have hM2 : M2.length ≤ 49 := hY
  clear hY
  obtain ⟨m, hm⟩ : ∃ m, M.length = m := ⟨_, rfl⟩
  obtain ⟨m2, hm2⟩ : ∃ m, M2.length = m := ⟨_, rfl⟩
  rw [hm] at hM
  rw [hm2] at hM2
  have SM := fun a1 a2 c1 c2 w h1 h2 => same_any a1 a2 m c1 c2 M hm (by omega) w h1 h2
  have SM2 := fun a1 a2 c1 c2 w h1 h2 => same_any a1 a2 m2 c1 c2 M2 hm2 (by omega) w h1 h2
  have hgs := guardS
  have hEE : (E != E) = false := by simp
  obtain ⟨n, hn⟩ : ∃ n, l.length = n := ⟨_, rfl⟩
  rw [hn] at LD P1 P2 KP hl2n P3 P4 hz0 ⊢
  have HN := hide hn
  clear hn
  have LD := hide LD
  have P1 := hide P1
  have P2 := hide P2
  have P3 := hide P3
  have P4 := hide P4
  have KP := hide KP
  have SM := hide SM
  have SM2 := hide SM2
  have HL2 := hide hl2
  have HM := hide hm
  have HM2 := hide hm2
  clear hl2 hl2n hm hm2
  have hni : (n : Int) ≤ 140737488351232 := by omega
  have hmi : (m : Int) ≤ 49 := by omega
  go_enter Tryd.func7, Tryd.ntmps7
  go_wp2_with fail
  refine (pfirst_any _ hGl).mono ?_
  rintro e w1 ⟨rfl, hb2⟩
  have q0 := q0.below hb2 q0.lt
  have sl := sl.below hb2
  have hGl := hGl.up hb2
  have kb := kb.trans (hb2.mono kb.size)
  clear hb2
  clear hW0
  try rw [hb0]
  have kbs := q0.lt
  go_wp2_with fail
  refine (LD.out _ sl).mono ?_
  rintro e w3 ⟨⟨v7, rfl, ln⟩, hb4⟩
  have q0 := q0.below hb4 q0.lt
  have sl := sl.below hb4
  have hGl := hGl.up hb4
  have kb := kb.trans (hb4.mono kb.size)
  clear hb4
  obtain ⟨gg, c1, hv7, hro, hsl7, hmk, hc1, hgl, hgB⟩ := Lent.form ln
  rw [HN.out] at hv7 hmk hc1 hro
  subst hv7
  clear ln
  have hyB : b0 < gg := Nat.lt_of_lt_of_le kbs hgB
  clear kbs hgB
  have hro := hro.mono (Nat.zero_le _)
  have Hq0 := hide q0
  go_wp2_with (first | refine wpList_load_part rfl 23 _ rfl b0 0 rfl 23 _ 32 32 _ Hq0.out (by omega) Tryd.underlying23 rfl info26 (bv h) (fun i hi => by rw [Nat.zero_add]) ?_)
  clear Hq0
  have hgl8 := hgl
  have sz8 := Nat.le_refl w3.heap.size
  refine (P1.out _ _ _ hGl hsl7).mono ?_
  rintro e w5 ⟨⟨v8, rfl, o8⟩, hb6⟩
  have q0 := q0.below hb6 q0.lt
  have sl := sl.below hb6
  have hsl7 := hsl7.below hb6
  have hro := hro.below hb6 (Nat.le_refl _)
  have hGl := hGl.up hb6
  have kb := kb.trans (hb6.mono kb.size)
  have hmk := hmk.below hb6 hgl
  have hgl := Nat.lt_of_lt_of_le hgl hb6.size
  have sz8 := Nat.le_trans sz8 hb6.size
  clear hb6
  obtain ⟨ad8, cap8, rfl, s8, lt8, -⟩ := o8.slotsN HM.out
  have Hq0 := hide q0
  go_wp2_with (first | refine wpList_load_part rfl 23 _ rfl b0 0 rfl 23 _ 32 32 _ Hq0.out (by omega) Tryd.underlying23 rfl info26 (bv h) (fun i hi => by rw [Nat.zero_add]) ?_)
  clear Hq0
  have hgl10 := hgl
  have hSz5 := sz8
  have sz10 := Nat.le_refl w5.heap.size
  refine (P1.out _ _ _ hGl hsl7).mono ?_
  rintro e w7 ⟨⟨v10, rfl, o10⟩, hb8⟩
  have q0 := q0.below hb8 q0.lt
  have sl := sl.below hb8
  have hsl7 := hsl7.below hb8
  have hro := hro.below hb8 (Nat.le_refl _)
  have s8 := s8.below hb8
  have o8 := o8.below hb8 (Nat.le_refl _)
  have hGl := hGl.up hb8
  have kb := kb.trans (hb8.mono kb.size)
  have hmk := hmk.below hb8 hgl
  have hgl := Nat.lt_of_lt_of_le hgl hb8.size
  have sz8 := Nat.le_trans sz8 hb8.size
  have sz10 := Nat.le_trans sz10 hb8.size
  clear hb8
  obtain ⟨ad10, cap10, rfl, s10, lt10, -⟩ := o10.slotsN HM.out
  have Hq0 := hide q0
  go_wp2_with (first | refine wpList_load_part rfl 23 _ rfl b0 0 rfl 23 _ 32 32 _ Hq0.out (by omega) Tryd.underlying23 rfl info26 (bv h) (fun i hi => by rw [Nat.zero_add]) ?_)
  clear Hq0
  have hgl12 := hgl
  have hSz7 := sz10
  have sz12 := Nat.le_refl w7.heap.size
  refine (P2.out _ sl).mono ?_
  rintro e w9 ⟨⟨v12, rfl, o12⟩, hb10⟩
  have q0 := q0.below hb10 q0.lt
  have sl := sl.below hb10
  have hsl7 := hsl7.below hb10
  have hro := hro.below hb10 (Nat.le_refl _)
  have s8 := s8.below hb10
  have o8 := o8.below hb10 (Nat.le_refl _)
  have s10 := s10.below hb10
  have o10 := o10.below hb10 (Nat.le_refl _)
  have hGl := hGl.up hb10
  have kb := kb.trans (hb10.mono kb.size)
  have hmk := hmk.below hb10 hgl
  have hgl := Nat.lt_of_lt_of_le hgl hb10.size
  have sz8 := Nat.le_trans sz8 hb10.size
  have sz10 := Nat.le_trans sz10 hb10.size
  have sz12 := Nat.le_trans sz12 hb10.size
  clear hb10
  obtain ⟨ad12, cap12, rfl, s12, lt12, -⟩ := o12.slotsN HM.out
  go_wp2_with fail
  refine (SM.out _ _ _ _ _ s8 s12).mono ?_
  rintro e w11 ⟨rfl, hb12⟩
  have q0 := q0.below hb12 q0.lt
  have sl := sl.below hb12
  have hsl7 := hsl7.below hb12
  have hro := hro.below hb12 (Nat.le_refl _)
  have s8 := s8.below hb12
  have o8 := o8.below hb12 (Nat.le_refl _)
  have s10 := s10.below hb12
  have o10 := o10.below hb12 (Nat.le_refl _)
  have s12 := s12.below hb12
  have o12 := o12.below hb12 (Nat.le_refl _)
  have hGl := hGl.up hb12
  have kb := kb.trans (hb12.mono kb.size)
  have hmk := hmk.below hb12 hgl
  have hgl := Nat.lt_of_lt_of_le hgl hb12.size
  have sz8 := Nat.le_trans sz8 hb12.size
  have sz10 := Nat.le_trans sz10 hb12.size
  have sz12 := Nat.le_trans sz12 hb12.size
  clear hb12
  go_wp2_with fail
  refine (SM.out _ _ _ _ _ s10 s12).mono ?_
  rintro e w13 ⟨rfl, hb14⟩
  have q0 := q0.below hb14 q0.lt
  have sl := sl.below hb14
  have hsl7 := hsl7.below hb14
  have hro := hro.below hb14 (Nat.le_refl _)
  have s8 := s8.below hb14
  have o8 := o8.below hb14 (Nat.le_refl _)
  have s10 := s10.below hb14
  have o10 := o10.below hb14 (Nat.le_refl _)
  have s12 := s12.below hb14
  have o12 := o12.below hb14 (Nat.le_refl _)
  have hGl := hGl.up hb14
  have kb := kb.trans (hb14.mono kb.size)
  have hmk := hmk.below hb14 hgl
  have hgl := Nat.lt_of_lt_of_le hgl hb14.size
  have sz8 := Nat.le_trans sz8 hb14.size
  have sz10 := Nat.le_trans sz10 hb14.size
  have sz12 := Nat.le_trans sz12 hb14.size
  clear hb14
  go_wp2_with fail
  refine (KP.out _ _ hc1 _ hsl7 hmk hgl sl).mono ?_
  rintro e w15 ⟨rfl, hb16⟩
  have q0 := q0.below hb16 q0.lt
  have sl := sl.below hb16
  have hsl7 := hsl7.below hb16
  have hro := hro.below hb16 (Nat.le_refl _)
  have s8 := s8.below hb16
  have o8 := o8.below hb16 (Nat.le_refl _)
  have s10 := s10.below hb16
  have o10 := o10.below hb16 (Nat.le_refl _)
  have s12 := s12.below hb16
  have o12 := o12.below hb16 (Nat.le_refl _)
  have hGl := hGl.up hb16
  have kb := kb.trans (hb16.mono kb.size)
  have hmk := hmk.below hb16 hgl
  have hgl := Nat.lt_of_lt_of_le hgl hb16.size
  have sz8 := Nat.le_trans sz8 hb16.size
  have sz10 := Nat.le_trans sz10 hb16.size
  have sz12 := Nat.le_trans sz12 hb16.size
  clear hb16
  have hSz9 := sz12
  clear sl hmk hsl7 s8
  obtain ⟨T3, hT3⟩ : ∃ T, w3.heap.size = T := ⟨_, rfl⟩
  obtain ⟨T5, hT5⟩ : ∃ T, w5.heap.size = T := ⟨_, rfl⟩
  obtain ⟨T7, hT7⟩ : ∃ T, w7.heap.size = T := ⟨_, rfl⟩
  rw [hT3] at o8 lt8 hgl8
  rw [hT5] at lt8 o10 lt10 hgl10
  rw [hT7] at lt10 o12 lt12 hgl12
  rw [hT3, hT5] at hSz5
  rw [hT5, hT7] at hSz7
  rw [hT7] at hSz9
  have h35 : T3 ≤ T5 := hSz5
  have h57 : T5 ≤ T7 := hSz7
  have hz7 : T7 ≤ w15.heap.size := hSz9
  have a8 : ∀ k, (Value.slice ad8 m cap8).ownBlock = some k → T3 ≤ k ∧ k < T5 := fun k hk => by
    cases ad8 with
    | none => cases hk
    | some y => have e : y.block = k := by simpa [Value.ownBlock] using hk
                have := lt8 y rfl
                omega
  have a10 : ∀ k, (Value.slice ad10 m cap10).ownBlock = some k → T5 ≤ k ∧ k < T7 := fun k hk => by
    cases ad10 with
    | none => cases hk
    | some y => have e : y.block = k := by simpa [Value.ownBlock] using hk
                have := lt10 y rfl
                omega
  have a12 : ∀ k, (Value.slice ad12 m cap12).ownBlock = some k → T7 ≤ k := fun k hk => (o12.lt k hk).1
  have hgT : gg < T3 := hgl8
  have hbT : b0 < gg := hyB
  have hbw : w.heap.size = b0 := hb0
  have HA8 := hide a8
  have HA10 := hide a10
  have HA12 := hide a12
  clear hgl8 hgl10 hgl12 hgl lt8 lt10 lt12 hyB s10 s12 hT3 hT5 hT7 a8 a10 a12 hSz5 hSz7 hSz9 hb0
  have HB := hide hbw
  clear hbw
  go_wp2
  go_loopw [14] (fun v14 wr => ∃ (j : Nat) (la : List Slot), j ≤ m ∧ v14 = .int .i64 (j : Int) ∧ la.length = m ∧ OwnS T3 wr (.slice ad8 m cap8) la ∧ OwnS T5 wr (.slice ad10 m cap10) M ∧ OwnS T7 wr (.slice ad12 m cap12) M ∧ OwnS 0 wr (.slice (some ⟨gg, 0, none⟩) (n + 1) c1) (l ++ [mark]) ∧ Has wr b0 23 (bv h) 32 ∧ T7 ≤ wr.heap.size ∧ Below w.heap.size w wr) (fun i _ => m - (intOf i).toNat)
  case atStart => exact ⟨0, M, Nat.zero_le _, rfl, HM.out, o8, o10, o12, hro, q0, hz7, kb⟩
  case round =>
    clear o8 o10 o12 hro q0 hz7 kb hGl
    obtain ⟨j, la, hj, rfl, hla, o8, o10, o12, hro, q0, hz7, kb⟩ := hrel
    by_cases hlt : j < m
    · have hd : decide ((j : Int) < (m : Int)) = true := decide_eq_true (by omega)
      have hd2 : decide (j < m) = true := decide_eq_true hlt
      have hk0 : (0 : Int) ≤ (j : Int) := by omega
      have hk1 : (j : Int) < (m : Int) := by omega
      obtain ⟨g8, f8, e8, hh8, hmc, hnew⟩ := o8.storeAt hla hlt
      subst e8
      have hg8 := HA8.out g8 rfl
      obtain ⟨w30, hz30⟩ : ∃ y, wr.setRow g8 (tabv (splice f8 (j * 34) (Slot.v ⟨-1, fun _ => 0, false⟩) 34) (cap8 * 34)) = y := ⟨_, rfl⟩
      have o8n : OwnS T3 w30 (.slice (some ⟨g8, 0, none⟩) m cap8) (la.set j ⟨-1, fun _ => 0, false⟩) := by rw [← hz30]; exact hnew _
      have ot : ∀ k, k ≠ g8 → w30.heap[k]? = wr.heap[k]? := fun k hk => by rw [← hz30]; exact setRow_other _ _ _ _ hk
      have o10n := o10.same (fun k hk => ot k (by have := HA10.out k hk; omega))
      have o12n := o12.same (fun k hk => ot k (by have := HA12.out k hk; omega))
      have hron := hro.same (own_head (ot gg (by omega)))
      have q0n : Has w30 b0 23 (bv h) 32 := by unfold Has; rw [ot b0 (by omega)]; exact q0
      have hz7n : T7 ≤ w30.heap.size := by rw [← hz30]; simpa using hz7
      have kbn : Below w.heap.size w w30 := by rw [← hz30]; exact below_setRow kb (by have := HB.out; omega) _
      have HH8 := hide hh8
      have HZ30 := hide hz30
      have O8 := hide o8n
      clear hh8 hz30 o8n hnew o8 o10 o12 hro q0 kb ot
      go_wp2_with (first | refine wpList_buildI rfl (-1) rfl ?_ | (refine wpList_store_part rfl 37 _ _ rfl rfl g8 (j * 34) (Slot.v ⟨-1, fun _ => 0, false⟩) 34 rfl rfl 37 _ (cap8 * 34) HH8.out (by omega) infoS (fun i _ => oneV _ i) (splice f8 (j * 34) (Slot.v ⟨-1, fun _ => 0, false⟩) 34) (fun _ _ => rfl) ?_; rw [HZ30.out]))
      go_roundw
      case rel => exact ⟨j + 1, la.set j ⟨-1, fun _ => 0, false⟩, by omega, by go_num, by rw [List.length_set]; exact hla, O8.out, o10n, o12n, hron, q0n, hz7n, kbn⟩
      case measure => simp [intOf]; omega
    · have hjm : j = m := by omega
      subst hjm
      have hd : decide ((j : Int) < (j : Int)) = false := decide_eq_false (by omega)
      have hd2 : decide (j < j) = false := decide_eq_false (by omega)
      obtain ⟨vL, w31, w32, hA1, hA2, oL, hkeep, hbl⟩ := appS_step wr T3 (.slice ad8 j cap8) la ⟨-2, fun _ => 0, false⟩ o8 (by rw [hla]; omega) (by omega)
      obtain ⟨adL, capL, hvL, -, -⟩ := oL.slotsN (n := j + 1) (by rw [List.length_append, hla]; rfl)
      subst hvL
      have o10n := o10.same (fun k hk => hkeep k (o10.lt k hk).2 (fun e => by have := HA10.out k hk; have := HA8.out k e; omega))
      have o12n := o12.same (fun k hk => hkeep k (o12.lt k hk).2 (fun e => by have := HA12.out k hk; have := HA8.out k e; omega))
      have hron := hro.same (own_head (hbl.block gg hgT))
      have q0n := q0.below hbl (by omega)
      have hz7n := Nat.le_trans hz7 hbl.size
      have kbn := kb.trans (hbl.mono (by have := HB.out; omega))
      have HA1 := hide hA1
      have HA2 := hide hA2
      clear hA1 hA2 oL hkeep hbl o8 o10 o12 hro q0 hz7 kb
      have hroZ := hron
      rw [← halfS_zero flip2 l] at hroZ
      obtain ⟨B2, hB2⟩ : ∃ B, w32.heap.size = B := ⟨_, rfl⟩
      have hTB : T7 ≤ B2 := by omega
      have u10 : ∀ k, (Value.slice ad10 j cap10).ownBlock = some k → k < B2 := fun k hk => by rw [← hB2]; exact (o10n.lt k hk).2
      have u12 : ∀ k, (Value.slice ad12 j cap12).ownBlock = some k → k < B2 := fun k hk => by rw [← hB2]; exact (o12n.lt k hk).2
      have hSz : B2 ≤ w32.heap.size := by omega
      have U10 := hide u10
      have U12 := hide u12
      clear hB2 hron u10 u12
      go_wp2_with (first | refine wpList_buildI rfl (-2) rfl ?_ | refine wpList_slice1 rfl 25 _ rfl (.agg (tabv (Slot.v ⟨-2, fun _ => 0, false⟩) 34)) rfl HA1.out ?_ | refine wpList_app rfl _ _ _ rfl HA2.out ?_)
      go_loopw [16, 17] (fun v16 v17 wr => ∃ i : Nat, i ≤ n ∧ v17 = .int .i64 (i : Int) ∧ OwnS 0 wr (.slice (some ⟨gg, 0, none⟩) (n + 1) c1) (halfS flip2 l i ++ [mark]) ∧ OwnS B2 wr v16 ((l.take i).map flip2) ∧ OwnS T5 wr (.slice ad10 j cap10) M ∧ OwnS T7 wr (.slice ad12 j cap12) M ∧ Has wr b0 23 (bv h) 32 ∧ B2 ≤ wr.heap.size ∧ Below w.heap.size w wr) (fun _ i _ => n - (intOf i).toNat)
      case atStart => exact ⟨0, Nat.zero_le _, rfl, hroZ, OwnS.nil _ _, o10n, o12n, q0n, hSz, kbn⟩
      case round =>
        clear hroZ o10n o12n q0n hz7n hSz kbn HA1 HA2
        obtain ⟨i, hi, rfl, hro, o16, o10, o12, q0, hSz, kb⟩ := hrel
        by_cases hin : i < n
        · have hd3 : decide ((i : Int) < (n : Int)) = true := decide_eq_true (by omega)
          have hd4 : decide (i < n) = true := decide_eq_true hin
          have hk0 : (0 : Int) ≤ (i : Int) := by omega
          have hk1 : (i : Int) < (n : Int) := by omega
          obtain ⟨s, hs⟩ : ∃ s, l[i]? = some s := ⟨_, List.getElem?_eq_getElem (by rw [HN.out]; exact hin)⟩
          have hlen : (halfS flip2 l i ++ [mark]).length = n + 1 := by rw [List.length_append, halfS_length _ _ _ (by rw [HN.out]; exact hi), HN.out]; rfl
          have hsh : (halfS flip2 l i ++ [mark])[i]? = some s := by rw [List.getElem?_append_left (by rw [halfS_length _ _ _ (by rw [HN.out]; exact hi), HN.out]; exact hin)]; exact halfS_get hs
          obtain ⟨c33, fz33⟩ := hro.cellAt hlen hsh (q := 33) (by omega)
          rw [Slot.v_full] at c33
          have hro2 := hro.turned (k := i) (q := 33) (t := flip2 s) hlen hsh (by omega) (flip2_v s)
          rw [show (flip2 s).v 33 = .bool (!s.full) from rfl] at hro2
          rw [List.set_append_left _ _ (by rw [halfS_length _ _ _ (by rw [HN.out]; exact hi), HN.out]; exact hin), halfS_step hs] at hro2
          have o16b := o16.otherCell ⟨gg, i * 34 + 33, none⟩ (.bool (!s.full)) (fun k hk e => by have := (o16.lt k hk).1; have e : k = gg := e; omega)
          have o10b := o10.otherCell ⟨gg, i * 34 + 33, none⟩ (.bool (!s.full)) (fun k hk e => by have := HA10.out k hk; have e : k = gg := e; omega)
          have o12b := o12.otherCell ⟨gg, i * 34 + 33, none⟩ (.bool (!s.full)) (fun k hk e => by have := HA12.out k hk; have e : k = gg := e; omega)
          have q0b := q0.other ⟨gg, i * 34 + 33, none⟩ (.bool (!s.full)) (show b0 ≠ gg by omega)
          have kb2 := kb.setCell (p := ⟨gg, i * 34 + 33, none⟩) (show w.heap.size ≤ gg by have := HB.out; omega) (.bool (!s.full))
          obtain ⟨w40, hw40⟩ : ∃ y, wr.setCell ⟨gg, i * 34 + 33, none⟩ (.bool (!s.full)) = y := ⟨_, rfl⟩
          have hSz2 : B2 ≤ w40.heap.size := by rw [← hw40]; simpa using hSz
          rw [hw40] at hro2 o16b o10b o12b q0b kb2
          obtain ⟨v9, w41, w42, hA1, hA2, o9, hkeep, hbl⟩ := appS_step w40 B2 u16 ((l.take i).map flip2) (flip2 s) o16b (by rw [List.length_map, List.length_take, HN.out]; omega) hSz2
          rw [← take_step hs] at o9
          have hro3 : OwnS 0 w42 (.slice (some ⟨gg, 0, none⟩) (n + 1) c1) (halfS flip2 l (i + 1) ++ [mark]) := hro2.same (own_head (hbl.block gg (by omega)))
          have o10n := o10b.same (fun k hk => hbl.block k (U10.out k hk))
          have o12n := o12b.same (fun k hk => hbl.block k (U12.out k hk))
          have q0n := q0b.below hbl (by omega)
          have kbn := kb2.trans (hbl.mono (by have := HB.out; omega))
          have hSzn := Nat.le_trans hSz2 hbl.size
          obtain ⟨adh, ch, eh, sh, -, -⟩ := hro2.slots
          have hlen2 : (halfS flip2 l (i + 1) ++ [mark]).length = n + 1 := by rw [List.length_append, halfS_length _ _ _ (by rw [HN.out]; exact hin), HN.out]; rfl
          rw [hlen2] at eh
          cases eh
          obtain ⟨b7, o7, e7, -, hA7⟩ := sh.get i (flip2 s) (by rw [← halfS_step hs, List.getElem?_append_left (by rw [List.length_set, halfS_length _ _ _ (by rw [HN.out]; exact hi), HN.out]; exact hin), List.getElem?_set, if_pos rfl, if_pos (by rw [halfS_length _ _ _ (by rw [HN.out]; exact hi), HN.out]; exact hin)])
          cases e7
          rw [Nat.zero_add] at hA7
          obtain ⟨sf, hsf⟩ : ∃ b, s.full = b := ⟨_, rfl⟩
          rw [hsf] at c33 hw40
          have HA7 := hide hA7
          have HA1 := hide hA1
          have HA2 := hide hA2
          have HO9 := hide o9
          have HRO3 := hide hro3
          clear hA7 hA1 hA2 o9 hro hro2 hro3 o16 o16b o10 o10b o12 o12b q0 q0b kb kb2 hkeep hbl sh hlen2 hs hsh hlen hsf
          go_wp2_with (first | refine wpW_load_at 37 _ rfl gg (i * 34) (by rfl) (by rfl) _ 34 _ HA7.out Tryd.underlying37 rfl infoS ?_ | refine wpList_slice1 rfl 25 _ rfl (.agg (tabv (Slot.v (flip2 s)) 34)) rfl HA1.out ?_ | refine wpList_app rfl _ _ _ rfl HA2.out ?_)
          go_roundw
          case rel => exact ⟨i + 1, by omega, by go_num, HRO3.out, HO9.out, o10n, o12n, q0n, hSzn, kbn⟩
          case measure => simp [intOf]; omega
        · have hie : i = n := by omega
          subst hie
          have hd3 : decide ((i : Int) < (i : Int)) = false := decide_eq_false (by omega)
          have hd4 : decide (i < i) = false := decide_eq_false (by omega)
          have hfull : halfS flip2 l i = l2 := by rw [← HL2.out, ← HN.out]; exact halfS_all _ _
          have htake : (l.take i).map flip2 = l2 := by rw [← HL2.out, ← HN.out, List.take_length]
          rw [hfull] at hro
          rw [htake] at o16
          have hl2n : l2.length = i := by rw [← HL2.out, List.length_map, HN.out]
          have ln : Lent 0 wr (.slice (some ⟨gg, 0, none⟩) i c1) l2 := ⟨gg, c1, by rw [hl2n], by rw [hl2n]; exact hro⟩
          obtain ⟨g9, c9, e9, -, s5, -⟩ := Lent.form ln
          rw [hl2n] at e9
          cases e9
          clear ln hro
          obtain ⟨ad16, cap16, rfl, s16, -, -⟩ := o16.slotsN hl2n
          obtain ⟨adx, capx, ex, s10, -, -⟩ := o10.slotsN HM.out
          cases ex
          obtain ⟨ady, capy, ey, s12, -, -⟩ := o12.slotsN HM.out
          cases ey
          clear o16 o10 o12
          have hGl : Glob num wr := hG.up kb
          have Hq0 := hide q0
          go_wp2_with (first | refine wpList_load_part rfl 23 _ rfl b0 0 rfl 23 _ 32 32 _ Hq0.out (by omega) Tryd.underlying23 rfl info26 (bv h) (fun i hi => by rw [Nat.zero_add]) ?_)
          clear Hq0
          refine (P3.out _ _ _ hGl s5).mono ?_
          rintro e w701 ⟨⟨v18, rfl, o18⟩, hb702⟩
          have s5 := s5.below hb702
          have s16 := s16.below hb702
          have s10 := s10.below hb702
          have s12 := s12.below hb702
          have q0 := q0.below hb702 q0.lt
          have hGl := hGl.up hb702
          have kb := kb.trans (hb702.mono kb.size)
          clear hb702
          obtain ⟨ad18, cap18, rfl, s18, -, -⟩ := o18.slotsN HM2.out
          clear o18
          have Hq0 := hide q0
          go_wp2_with (first | refine wpList_load_part rfl 23 _ rfl b0 0 rfl 23 _ 32 32 _ Hq0.out (by omega) Tryd.underlying23 rfl info26 (bv h) (fun i hi => by rw [Nat.zero_add]) ?_)
          clear Hq0
          refine (P4.out _ _ _ s16).mono ?_
          rintro e w703 ⟨⟨v20, rfl, o20⟩, hb704⟩
          have s5 := s5.below hb704
          have s16 := s16.below hb704
          have s10 := s10.below hb704
          have s12 := s12.below hb704
          have q0 := q0.below hb704 q0.lt
          have s18 := s18.below hb704
          have hGl := hGl.up hb704
          have kb := kb.trans (hb704.mono kb.size)
          clear hb704
          obtain ⟨ad20, cap20, rfl, s20, -, -⟩ := o20.slotsN HM2.out
          clear o20
          have hjj : ((j : Int) + 1 == (j : Int) + 1) = true := by simp
          go_wp2_with fail
          refine (SM.out _ _ _ _ _ s10 s12).mono ?_
          rintro e w705 ⟨rfl, hb706⟩
          have s5 := s5.below hb706
          have s16 := s16.below hb706
          have s10 := s10.below hb706
          have s12 := s12.below hb706
          have q0 := q0.below hb706 q0.lt
          have s18 := s18.below hb706
          have s20 := s20.below hb706
          have hGl := hGl.up hb706
          have kb := kb.trans (hb706.mono kb.size)
          clear hb706
          go_wp2_with fail
          refine (SM2.out _ _ _ _ _ s18 s20).mono ?_
          rintro e w707 ⟨rfl, hb708⟩
          have s5 := s5.below hb708
          have s16 := s16.below hb708
          have s10 := s10.below hb708
          have s12 := s12.below hb708
          have q0 := q0.below hb708 q0.lt
          have s18 := s18.below hb708
          have s20 := s20.below hb708
          have hGl := hGl.up hb708
          have kb := kb.trans (hb708.mono kb.size)
          clear hb708
          go_wp2
          go_ret
          exact ⟨by simp, kb⟩
end Go.Proofs.YtocojkafdgmgdaaDoor
