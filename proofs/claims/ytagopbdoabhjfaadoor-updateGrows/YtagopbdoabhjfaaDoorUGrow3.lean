/-
  The statement's sound (printed by gen_grow3.py).
-/
import Derived.Test.YtagopbdoabhjfaaDoorUGrow2
namespace Go.Proofs.YtagopbdoabhjfaaDoor
open Go.RowKit S
set_option linter.unusedVariables false
set_option linter.unusedSimpArgs false
def thB (l : List Upd) (id : Int) : Bool := l.any fun a => (a.kind == 1) && (a.id == id)
theorem th_next {l : List Upd} {j : Nat} {x : Upd} (hx : l[j]? = some x) (id : Int) : thB (l.take (j + 1)) id = (thB (l.take j) id || ((x.kind == 1) && (x.id == id))) := by
  unfold thB; rw [take_snoc hx, List.any_append]; simp
/-- What is known of a removal in a sound list. -/
structure RemAt (mine others : List Upd) (i : Nat) (u : Upd) : Prop where
  no : ∀ (k : Nat) (x : Upd), k < i → mine[k]? = some x → (x.kind == 1) = false → (x.id == u.id) = false
  good : ∀ (k : Nat) (a : Upd), others[k]? = some a → (a.kind == 1) = true → (a.id == u.id) = true → ((u.kind == 3) || eqH (sumU u.hash) a.hash) = true
  is : thB others u.id = true
theorem rem_at {mine others : List Upd} {i : Nat} {u : Upd} (h1 : Sound mine others) (h2 : Sound others mine) (hu : mine[i]? = some u) (hk : (u.kind == 1) = false) : RemAt mine others i u := by
  have hk' : u.kind ≠ 1 := fun e => by rw [e] at hk; exact absurd hk (by decide)
  rcases h1 i u hu with h | ⟨_, _, h3, a, ha, ha1, ha2, ha3⟩
  · exact absurd h.1 hk'
  · obtain ⟨ka, hka⟩ := List.mem_iff_getElem?.1 ha
    refine ⟨fun k x hki hx hxk => ?_, fun k b hb hb1 hb2 => ?_, ?_⟩
    · rw [beq_eq_false_iff_ne] at hxk ⊢
      exact h3 x (List.mem_iff_getElem?.2 ⟨k, by rw [List.getElem?_take_of_lt hki]; exact hx⟩) hxk
    · rw [beq_iff_eq] at hb1 hb2
      have e := adds_one h2 hb hka hb1 ha1 (hb2.trans ha2.symm)
      subst e
      rw [hka] at hb
      cases hb
      exact ha3
    · unfold thB
      rw [List.any_eq_true]
      exact ⟨a, ha, by rw [ha1, ha2]; simp⟩
theorem add_at {mine others : List Upd} {i : Nat} {u : Upd} (h1 : Sound mine others) (hu : mine[i]? = some u) (hk : (u.kind == 1) = true) : u.id = (addsN (mine.take i) : Int) := by
  rw [beq_iff_eq] at hk
  rcases h1 i u hu with h | h
  · exact h.2
  · exact absurd hk h.1
set_option maxRecDepth 100000 in
set_option maxHeartbeats 4000000 in
theorem sound_any (n : Num) (ad1 ad2 : Option Addr) (n1 n2 cap1 cap2 : Nat) (mine others : List Upd) (hn1 : mine.length = n1) (hn2 : others.length = n2) (hz1 : n1 ≤ 140737488351232) (hz2 : n2 ≤ 140737488351232) (w : World) (hG : Glob n w) (hS1 : Upds w ad1 mine) (hS2 : Upds w ad2 others) (h1 : Sound mine others) (h2 : Sound others mine) : Calls Tryd.prog 16 #[.slice ad1 n1 cap1, .slice ad2 n2 cap2] w fun e w' => e = .returned (.bool true) ∧ Below w.heap.size w w' := by
  have H1 := hide h1
  have H2 := hide h2
  have HN1 := hide hn1
  have HN2 := hide hn2
  have HZ := hide hz1
  have hni : (n1 : Int) ≤ 140737488351232 := by omega
  have hni2 : (n2 : Int) ≤ 140737488351232 := by omega
  clear h1 h2 hn1 hn2 hz1 hz2
  go_enter Tryd.func16, Tryd.ntmps16
  go_wp2
  go_loopw [5, 6] (fun c ix wr => ∃ i : Nat, i ≤ n1 ∧ ix = .int .i64 (i : Int) ∧ c = .int .i64 (addsN (mine.take i) : Int) ∧ Below w.heap.size w wr) (fun _ ix _ => n1 - (intOf ix).toNat)
  case atStart => exact ⟨0, Nat.zero_le _, rfl, rfl, Below.refl _ _⟩
  case round =>
    obtain ⟨i, hi, rfl, rfl, gb⟩ := hrel
    by_cases hlt : i < n1
    · have hd : decide ((i : Int) < (n1 : Int)) = true := decide_eq_true (by omega)
      have hd2 : decide (i < n1) = true := decide_eq_true hlt
      have hk0 : (0 : Int) ≤ (i : Int) := by omega
      have hk1 : (i : Int) < (n1 : Int) := by omega
      obtain ⟨s, hs⟩ : ∃ s, mine[i]? = some s := ⟨_, List.getElem?_eq_getElem (by rw [HN1.out]; exact hlt)⟩
      obtain ⟨b, o, rfl, hb1, hA⟩ := (hS1.below gb).get i s hs
      have HS := hide hs
      have HA := hide hA
      obtain ⟨K, hK⟩ : ∃ K, addsN (mine.take i) = K := ⟨_, rfl⟩
      have hKj : K ≤ i := by rw [← hK]; exact Nat.le_trans (adds_le _) (by rw [List.length_take]; omega)
      have HK := hide hK
      rw [hK]
      have hKb : (K : Int) ≤ 140737488351232 := by have := HZ.out; omega
      have hK0 : (0 : Int) ≤ (K : Int) := by omega
      obtain ⟨w6, w7, hW6, q1, hW7, r1, rb⟩ := newU wr s
      have Q1 := hide q1
      have R7 := hide r1
      have gb7 := gb.trans (rb.mono gb.size)
      have hge : w.heap.size ≤ wr.heap.size := gb.size
      have c0 : w7.cell? ⟨wr.heap.size, 0, none⟩ = some (.int .i64 s.kind) := r1.cell 0 (by omega)
      have c1 : w7.cell? ⟨wr.heap.size, 1, none⟩ = some (.int .i64 s.id) := r1.cell 1 (by omega)
      generalize hgU : wr.heap.size = gU at Q1 R7 hge c0 c1 hW7
      clear hK hKj hs hA hb1 q1 r1 rb gb
      cases k1 : (s.kind == 1) with
      | true =>
        have hid : s.id = (K : Int) := by rw [add_at H1.out HS.out k1, HK.out]
        have hne : (s.id != (K : Int)) = false := by rw [hid]; simp
        clear hid
        go_wp2_with (first | refine wpW_load_at 25 _ rfl (b) (o + i * 36) (by rfl) (by rfl) _ 36 _ (HA.out) Tryd.underlying25 rfl infoU ?_ | refine wpList_storeU rfl _ _ rfl rfl gU s rfl rfl _ Q1.out ?_)
        go_roundw
        case rel => exact ⟨i + 1, by omega, by go_num, by rw [adds_next HS.out _ k1, HK.out, if_pos rfl]; exact int_eq (by omega), gb7⟩
        case measure => simp [intOf]; omega
      | false =>
        have HR := hide (rem_at H1.out H2.out HS.out k1)
        go_wp2_with (first | refine wpW_load_at 25 _ rfl (b) (o + i * 36) (by rfl) (by rfl) _ 36 _ (HA.out) Tryd.underlying25 rfl infoU ?_ | refine wpList_storeU rfl _ _ rfl rfl gU s rfl rfl _ Q1.out ?_)
        clear hW6 hW7 Q1 hgU
        go_loopw [8, 9] (fun t kx wq => ∃ k : Nat, k ≤ n2 ∧ kx = .int .i64 (k : Int) ∧ t = .bool (thB (others.take k) s.id) ∧ Has wq gU 25 s.v 36 ∧ Below w.heap.size w wq) (fun _ kx _ => n2 - (intOf kx).toNat)
        case atStart => exact ⟨0, Nat.zero_le _, rfl, rfl, R7.out, gb7⟩
        case round =>
          clear c0 c1 R7 gb7
          obtain ⟨k, hk, rfl, rfl, r7, gb7⟩ := hrel
          by_cases hlk : k < n2
          · have hdk : decide ((k : Int) < (n2 : Int)) = true := decide_eq_true (by omega)
            have hdk2 : decide (k < n2) = true := decide_eq_true hlk
            have hkk0 : (0 : Int) ≤ (k : Int) := by omega
            have hkk1 : (k : Int) < (n2 : Int) := by omega
            obtain ⟨a, ha⟩ : ∃ a, others[k]? = some a := ⟨_, List.getElem?_eq_getElem (by rw [HN2.out]; exact hlk)⟩
            obtain ⟨b2, o2, rfl, hb2, hAa⟩ := (hS2.below gb7).get k a ha
            have HSa := hide ha
            have e0 : wr.cell? ⟨b2, o2 + k * 36, none⟩ = some (.int .i64 a.kind) := hAa 0 (by omega)
            have e1 : wr.cell? ⟨b2, o2 + k * 36 + 1, none⟩ = some (.int .i64 a.id) := hAa 1 (by omega)
            have c1 : wr.cell? ⟨gU, 1, none⟩ = some (.int .i64 s.id) := r7.cell 1 (by omega)
            obtain ⟨Tk, hTk⟩ : ∃ t, thB (others.take k) s.id = t := ⟨_, rfl⟩
            have HTk := hide hTk
            rw [hTk]
            have R7 := hide r7
            have HAa := hide hAa
            clear hTk ha hAa r7 hb2
            cases ka : (a.kind == 1) with
            | false =>
              go_wp2
              go_quiet (fail)
              go_wp2
              go_roundw
              case rel => exact ⟨k + 1, by omega, by go_num, by rw [th_next HSa.out, HTk.out, ka]; simp, R7.out, belowD gb7 nq⟩
              case measure => simp [intOf]; omega
            | true =>
              cases ki : (a.id == s.id) with
              | false =>
                go_wp2
                go_quiet (fail)
                go_wp2
                go_roundw
                case rel => exact ⟨k + 1, by omega, by go_num, by rw [th_next HSa.out, HTk.out, ki]; simp, R7.out, belowD gb7 nq⟩
                case measure => simp [intOf]; omega
              | true =>
                have hgood := HR.out.good k a HSa.out ka ki
                go_wp2
                go_quiet (fail)
                go_wp2
                have Rv : Hid (Has (wr.drewN nq) gU 25 s.v 36) := R7.out
                have Av : Hid (At (wr.drewN nq) b2 (o2 + k * 36) a.v 36) := HAa.out
                have gbv := belowD gb7 nq
                have hltb : b2 < (wr.drewN nq).heap.size := World.block_lt_of_cell? _ _ e0
                have HLB := hide hltb
                generalize hwv : wr.drewN nq = wv at Rv Av gbv HLB ⊢
                have hGv : Glob n wv := hG.up gbv (Nat.le_refl _)
                clear e0 e1 c1 R7 HAa hltb hwv
                cases k3 : (s.kind == 3) with
                | true =>
                  refine wp_region_noPanic ?_
                  refine wp_region_held_drew (S := fun wx => Below wv.heap.size wv wx) (by kernel_rfl) ((Below.refl _ _).drew) (fun hHeld => ?_)
                  refine Cu.takeH 0 (some 52) (.pointer (some ⟨gU, 0, none⟩)) rfl rfl (by kernel_rfl) (by kernel_rfl) (by kernel_rfl) (fun _ _ _ h => h) (by rfl) (fun w hw => by first | rfl | (go_simp; done) | (go_simp; rfl) | (go_simp; omega)) hHeld ?_
                  simp only [Act.put, List.setIfInBounds_toArray, List.set_cons_zero, List.set_cons_succ]
                  refine Cu.takeH 1 (some 53) (.int .i64 s.kind) rfl rfl (by kernel_rfl) (by kernel_rfl) (by kernel_rfl) (fun _ _ _ h => h) (by rfl) (fun w hw => by have c0 : w.cell? ⟨_, 0, none⟩ = some (.int .i64 s.kind) := (Rv.out.below hw Rv.out.lt).cell 0 (by omega); first | rfl | (go_simp; done) | (go_simp; rfl) | (go_simp; omega)) hHeld ?_
                  simp only [Act.put, List.setIfInBounds_toArray, List.set_cons_zero, List.set_cons_succ]
                  refine Cu.takeH 2 (some 54) (.bool true) rfl rfl (by kernel_rfl) (by kernel_rfl) (by kernel_rfl) (fun _ _ _ h => h) (by rfl) (fun w hw => by first | rfl | (go_simp; done) | (go_simp; rfl) | (go_simp; omega)) hHeld ?_
                  simp only [Act.put, List.setIfInBounds_toArray, List.set_cons_zero, List.set_cons_succ]
                  refine Cu.takeH 3 (some 55) (.bool true) rfl rfl (by kernel_rfl) (by kernel_rfl) (by kernel_rfl) (fun _ _ _ h => h) (by rfl) (fun w hw => by first | rfl | (go_simp; done) | (go_simp; rfl) | (go_simp; omega)) hHeld ?_
                  simp only [Act.put, List.setIfInBounds_toArray, List.set_cons_zero, List.set_cons_succ]
                  refine skH 4 (some 56) rfl hHeld ?_
                  simp only [Act.put, List.setIfInBounds_toArray, List.set_cons_zero, List.set_cons_succ]
                  refine skH 5 (some 57) rfl hHeld ?_
                  simp only [Act.put, List.setIfInBounds_toArray, List.set_cons_zero, List.set_cons_succ]
                  refine skH 6 (some 58) rfl hHeld ?_
                  simp only [Act.put, List.setIfInBounds_toArray, List.set_cons_zero, List.set_cons_succ]
                  refine skH 7 (some 59) rfl hHeld ?_
                  simp only [Act.put, List.setIfInBounds_toArray, List.set_cons_zero, List.set_cons_succ]
                  refine skH 8 (some 60) rfl hHeld ?_
                  simp only [Act.put, List.setIfInBounds_toArray, List.set_cons_zero, List.set_cons_succ]
                  refine skH 9 (some 61) rfl hHeld ?_
                  simp only [Act.put, List.setIfInBounds_toArray, List.set_cons_zero, List.set_cons_succ]
                  refine skH 10 (some 62) rfl hHeld ?_
                  simp only [Act.put, List.setIfInBounds_toArray, List.set_cons_zero, List.set_cons_succ]
                  refine skH 11 (some 63) rfl hHeld ?_
                  simp only [Act.put, List.setIfInBounds_toArray, List.set_cons_zero, List.set_cons_succ]
                  refine skH 12 (some 64) rfl hHeld ?_
                  simp only [Act.put, List.setIfInBounds_toArray, List.set_cons_zero, List.set_cons_succ]
                  refine Cu.takeH 13 (some 65) (.bool true) rfl rfl (by kernel_rfl) (by kernel_rfl) (by kernel_rfl) (fun _ _ _ h => h) (by rfl) (fun w hw => by first | rfl | (go_simp; done) | (go_simp; rfl) | (go_simp; omega)) hHeld ?_
                  simp only [Act.put, List.setIfInBounds_toArray, List.set_cons_zero, List.set_cons_succ]
                  refine Cu.takeH 14 (some 8) (.bool true) rfl rfl (by kernel_rfl) (by kernel_rfl) (by kernel_rfl) (fun _ _ _ h => h) (by rfl) (fun w hw => by first | rfl | (go_simp; done) | (go_simp; rfl) | (go_simp; omega)) hHeld ?_
                  simp only [Act.put, List.setIfInBounds_toArray, List.set_cons_zero, List.set_cons_succ]
                  refine ⟨by kernel_rfl, ?_⟩
                  refine NoPanic.normal ?_
                  try go_wp2
                  go_roundw
                  case rel => exact ⟨k + 1, by omega, by go_num, by rw [th_next HSa.out, HTk.out, ka, ki]; simp, Rv.out.below hHeld Rv.out.lt, gbv.trans (hHeld.mono gbv.size)⟩
                  case measure => simp [intOf]; omega
                | false =>
                  have hR : eqH (sumU s.hash) a.hash = true := by rw [k3] at hgood; simpa using hgood
                  have hq : ∀ w : World, (Op.equalIn 10000 23 (.agg (tabv (bv (sumU s.hash)) 32)) (.agg (tabv (bv a.hash) 32))).run Tryd.prog w = .ok true w := fun w => by rw [← hR]; exact eqHD 9998 w _ _
                  have LS := hide (fun (w : World) (hG : Glob n w) => lsum_any n s.hash w hG)
                  clear hgood
                  generalize sumU s.hash = SH at hq LS hR
                  clear hR
                  refine wp_region_noPanic ?_
                  refine wp_region_held_drew (S := fun wx => Below wv.heap.size wv wx) (by kernel_rfl) ((Below.refl _ _).drew) (fun hHeld => ?_)
                  refine Cu.takeH 0 (some 52) (.pointer (some ⟨gU, 0, none⟩)) rfl rfl (by kernel_rfl) (by kernel_rfl) (by kernel_rfl) (fun _ _ _ h => h) (by rfl) (fun w hw => by first | rfl | (go_simp; done) | (go_simp; rfl) | (go_simp; omega)) hHeld ?_
                  simp only [Act.put, List.setIfInBounds_toArray, List.set_cons_zero, List.set_cons_succ]
                  refine Cu.takeH 1 (some 53) (.int .i64 s.kind) rfl rfl (by kernel_rfl) (by kernel_rfl) (by kernel_rfl) (fun _ _ _ h => h) (by rfl) (fun w hw => by have c0 : w.cell? ⟨_, 0, none⟩ = some (.int .i64 s.kind) := (Rv.out.below hw Rv.out.lt).cell 0 (by omega); first | rfl | (go_simp; done) | (go_simp; rfl) | (go_simp; omega)) hHeld ?_
                  simp only [Act.put, List.setIfInBounds_toArray, List.set_cons_zero, List.set_cons_succ]
                  refine Cu.takeH 2 (some 54) (.bool false) rfl rfl (by kernel_rfl) (by kernel_rfl) (by kernel_rfl) (fun _ _ _ h => h) (by rfl) (fun w hw => by first | rfl | (go_simp; done) | (go_simp; rfl) | (go_simp; omega)) hHeld ?_
                  simp only [Act.put, List.setIfInBounds_toArray, List.set_cons_zero, List.set_cons_succ]
                  refine Cu.takeH 3 (some 55) (.bool false) rfl rfl (by kernel_rfl) (by kernel_rfl) (by kernel_rfl) (fun _ _ _ h => h) (by rfl) (fun w hw => by first | rfl | (go_simp; done) | (go_simp; rfl) | (go_simp; omega)) hHeld ?_
                  simp only [Act.put, List.setIfInBounds_toArray, List.set_cons_zero, List.set_cons_succ]
                  refine Cu.takeH 4 (some 56) (.pointer (some ⟨gU, 3, none⟩)) rfl rfl (by kernel_rfl) (by kernel_rfl) (by kernel_rfl) (fun _ _ _ h => h) (by rfl) (fun w hw => by first | rfl | (go_simp; done) | (go_simp; rfl) | (go_simp; omega)) hHeld ?_
                  simp only [Act.put, List.setIfInBounds_toArray, List.set_cons_zero, List.set_cons_succ]
                  refine Cu.takeH 5 (some 57) (.agg (tabv (bv s.hash) 32)) rfl rfl (by kernel_rfl) (by kernel_rfl) (by kernel_rfl) (fun _ _ _ h => h) (by rfl) (fun w hw => run_load_at w 23 _ rfl _ 3 (by rfl) (bv s.hash) 32 _ ((Rv.out.below hw Rv.out.lt).at_hash) Tryd.underlying23 rfl info26) hHeld ?_
                  simp only [Act.put, List.setIfInBounds_toArray, List.set_cons_zero, List.set_cons_succ]
                  refine Cu.takeH 7 (some 59) (.slice (some ⟨b2, o2, none⟩) n2 cap2) rfl rfl (by kernel_rfl) (by kernel_rfl) (by kernel_rfl) (fun _ _ _ h => h) (by rfl) (fun w hw => by first | rfl | (go_simp; done) | (go_simp; rfl) | (go_simp; omega)) hHeld ?_
                  simp only [Act.put, List.setIfInBounds_toArray, List.set_cons_zero, List.set_cons_succ]
                  refine Cu.takeH 8 (some 60) (.int .i64 (k : Int)) rfl rfl (by kernel_rfl) (by kernel_rfl) (by kernel_rfl) (fun _ _ _ h => h) (by rfl) (fun w hw => by first | rfl | (go_simp; done) | (go_simp; rfl) | (go_simp; omega)) hHeld ?_
                  simp only [Act.put, List.setIfInBounds_toArray, List.set_cons_zero, List.set_cons_succ]
                  refine Cu.takeH 9 (some 61) (.pointer (some ⟨b2, o2 + k * 36, none⟩)) rfl rfl (by kernel_rfl) (by kernel_rfl) (by kernel_rfl) (fun _ _ _ h => h) (by rfl) (fun w hw => by first | rfl | (go_simp; done) | (go_simp; rfl) | (go_simp; omega)) hHeld ?_
                  simp only [Act.put, List.setIfInBounds_toArray, List.set_cons_zero, List.set_cons_succ]
                  refine Cu.takeH 10 (some 62) (.pointer (some ⟨b2, o2 + k * 36 + 3, none⟩)) rfl rfl (by kernel_rfl) (by kernel_rfl) (by kernel_rfl) (fun _ _ _ h => h) (by rfl) (fun w hw => by first | rfl | (go_simp; done) | (go_simp; rfl) | (go_simp; omega)) hHeld ?_
                  simp only [Act.put, List.setIfInBounds_toArray, List.set_cons_zero, List.set_cons_succ]
                  refine Cu.takeH 11 (some 63) (.agg (tabv (bv a.hash) 32)) rfl rfl (by kernel_rfl) (by kernel_rfl) (by kernel_rfl) (fun _ _ _ h => h) (by rfl) (fun w hw => run_load_at w 23 _ rfl _ (o2 + k * 36 + 3) (by rfl) (bv a.hash) 32 _ (fun j hj => by have := (Av.out.below hw HLB.out) (3 + j) (by omega); rw [Upd.v_hash a j hj] at this; rw [show o2 + k * 36 + 3 + j = o2 + k * 36 + (3 + j) by omega]; exact this) Tryd.underlying23 rfl info26) hHeld ?_
                  simp only [Act.put, List.setIfInBounds_toArray, List.set_cons_zero, List.set_cons_succ]
                  refine wpAnyH_ready (rs := [6]) (by kernel_rfl) (by simp) (AllReadyH.cons rfl (fun K hK => ?_) AllReadyH.nil)
                  rw [if_pos (by rfl)]
                  go_simp
                  refine (LS.out _ (hGv.up hHeld (Nat.le_refl _))).mono ?_
                  rintro e wz ⟨rfl, hbz⟩
                  try go_wp2_with fail
                  refine hK.out _ _ (hHeld.trans (hbz.mono hHeld.size)) (fun hH => ?_)
                  clear hK K hHeld
                  have hHeld := hH
                  clear hH
                  refine Cu.takeH 12 (some 64) (.bool true) rfl rfl (by kernel_rfl) (by kernel_rfl) (by kernel_rfl) (fun _ _ _ h => h) (by rfl) (fun w hw => run_eqH w _ _ _ _ true rfl rfl rfl (hq w)) hHeld ?_
                  simp only [Act.put, List.setIfInBounds_toArray, List.set_cons_zero, List.set_cons_succ]
                  refine Cu.takeH 13 (some 65) (.bool true) rfl rfl (by kernel_rfl) (by kernel_rfl) (by kernel_rfl) (fun _ _ _ h => h) (by rfl) (fun w hw => by first | rfl | (go_simp; done) | (go_simp; rfl) | (go_simp; omega)) hHeld ?_
                  simp only [Act.put, List.setIfInBounds_toArray, List.set_cons_zero, List.set_cons_succ]
                  refine Cu.takeH 14 (some 8) (.bool true) rfl rfl (by kernel_rfl) (by kernel_rfl) (by kernel_rfl) (fun _ _ _ h => h) (by rfl) (fun w hw => by first | rfl | (go_simp; done) | (go_simp; rfl) | (go_simp; omega)) hHeld ?_
                  simp only [Act.put, List.setIfInBounds_toArray, List.set_cons_zero, List.set_cons_succ]
                  refine ⟨by kernel_rfl, ?_⟩
                  refine NoPanic.normal ?_
                  try go_wp2
                  go_roundw
                  case rel => exact ⟨k + 1, by omega, by go_num, by rw [th_next HSa.out, HTk.out, ka, ki]; simp, Rv.out.below hHeld Rv.out.lt, gbv.trans (hHeld.mono gbv.size)⟩
                  case measure => simp [intOf]; omega
          · have hkn : k = n2 := by omega
            subst hkn
            have hdk : decide ((k : Int) < (k : Int)) = false := decide_eq_false (by omega)
            have hdk2 : decide (k < k) = false := decide_eq_false (by omega)
            have hfull : others.take k = others := by rw [← HN2.out]; exact List.take_length
            rw [hfull, HR.out.is]
            clear hfull
            have R7 := hide r7
            clear r7
            go_wp2
            go_loopw [10] (fun kx wq => ∃ q : Nat, q ≤ i ∧ kx = .int .i64 (q : Int) ∧ Has wq gU 25 s.v 36 ∧ Below w.heap.size w wq) (fun kx _ => i - (intOf kx).toNat)
            case atStart => exact ⟨0, Nat.zero_le _, rfl, R7.out, gb7⟩
            case round =>
              clear R7 gb7
              obtain ⟨q, hq, rfl, r7, gb7⟩ := hrel
              by_cases hlq : q < i
              · have hdq : decide ((q : Int) < (i : Int)) = true := decide_eq_true (by omega)
                have hdq2 : decide (q < i) = true := decide_eq_true hlq
                have hqq0 : (0 : Int) ≤ (q : Int) := by omega
                have hqq1 : (q : Int) < (n1 : Int) := by omega
                have hib : (i : Int) ≤ 140737488351232 := by omega
                obtain ⟨x, hx⟩ : ∃ x, mine[q]? = some x := ⟨_, List.getElem?_eq_getElem (by rw [HN1.out]; omega)⟩
                obtain ⟨b3, o3, hbo, hb3, hAx⟩ := (hS1.below gb7).get q x hx
                cases hbo
                have e0 : wr.cell? ⟨b, o + q * 36, none⟩ = some (.int .i64 x.kind) := hAx 0 (by omega)
                have e1 : wr.cell? ⟨b, o + q * 36 + 1, none⟩ = some (.int .i64 x.id) := hAx 1 (by omega)
                have c1 : wr.cell? ⟨gU, 1, none⟩ = some (.int .i64 s.id) := r7.cell 1 (by omega)
                have R7 := hide r7
                have hno := fun h => HR.out.no q x hlq hx h
                clear hx hAx r7 hb3
                cases kx1 : (x.kind == 1) with
                | true =>
                  have kxn : (x.kind != 1) = false := by unfold bne; rw [kx1]; rfl
                  clear hno
                  go_wp2
                  go_quiet (fail)
                  go_wp2
                  go_roundw
                  case rel => exact ⟨q + 1, by omega, by go_num, R7.out, belowD gb7 nq⟩
                  case measure => simp [intOf]; omega
                | false =>
                  have kxn : (x.kind != 1) = true := by unfold bne; rw [kx1]; rfl
                  have kxi := hno kx1
                  clear hno
                  go_wp2
                  go_quiet (fail)
                  go_wp2
                  go_roundw
                  case rel => exact ⟨q + 1, by omega, by go_num, R7.out, belowD gb7 nq⟩
                  case measure => simp [intOf]; omega
              · have hqi : q = i := by omega
                subst hqi
                have hdq : decide ((q : Int) < (q : Int)) = false := decide_eq_false (by omega)
                have hdq2 : decide (q < q) = false := decide_eq_false (by omega)
                go_wp2
                go_roundw
                case rel => exact ⟨q + 1, by omega, by go_num, by rw [adds_next HS.out _ k1, HK.out]; simp, gb7⟩
                case measure => simp [intOf]; omega
    · have hjn : i = n1 := by omega
      subst hjn
      have hd : decide ((i : Int) < (i : Int)) = false := decide_eq_false (by omega)
      have hd2 : decide (i < i) = false := decide_eq_false (by omega)
      go_wp2
      go_ret
      exact ⟨rfl, gb⟩
end Go.Proofs.YtagopbdoabhjfaaDoor
