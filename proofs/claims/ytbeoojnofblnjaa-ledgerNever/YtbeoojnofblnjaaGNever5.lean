/-
  LedgerNever: the book's removable (printed by gen_never5.py).
-/
import Derived.Test.YtbeoojnofblnjaaGNever4
import Derived.Test.YtbeoojnofblnjaaGRFold2
namespace Go.Proofs.Ytbeoojnofblnjaa
open Go.RowKit S Go.Shelf Go.Sort
set_option linter.unusedVariables false
set_option linter.unusedSimpArgs false
/-- An ID that may be removed: an add's, irrevocable. -/
def RemS (l : List Upd) (f : Nat) (z : Int) : Prop := ∃ i u, i < f ∧ l[i]? = some u ∧ u.kind = 1 ∧ u.id = z
theorem belowDN {B : Nat} {w wr : World} (h : Below B w wr) (k : Nat) : Below B w (wr.drewN k) := ⟨h.os, h.tape, h.output, h.size, h.block⟩
set_option maxRecDepth 100000 in
set_option maxHeartbeats 4000000 in
theorem remov0_any (g : Nat) (ad0 ad1 : Option Addr) (n0 c0 n1 c1 : Nat) (l0 l1 : List Upd) (h0 : l0.length = n0) (h1 : l1.length = n1) (z0 : n0 ≤ 2048) (z1 : n1 ≤ 2048) (f0 f1 : Nat) (hf0 : f0 ≤ n0) (hf1 : f1 ≤ n1) (b0 b1 : Int) (w : World) (hH : Has w g 30 (bkv (.slice ad0 n0 c0) (.slice ad1 n1 c1) f0 f1 b0 b1) 6) (u0 : Upds w ad0 l0) (u1 : Upds w ad1 l1) : Calls Try.prog 15 #[.pointer (some ⟨g, 0, none⟩), .int .i64 0] w fun e w' => ∃ v, e = .returned v ∧ (∃ ids, OwnZ w.heap.size w' v ids ∧ ids.length ≤ f1 ∧ ∀ z ∈ ids, RemS l1 f1 z) ∧ Below w.heap.size w w' := by
  have H := hide hH
  have HN := hide h1
  have HM := hide h0
  have HZ := hide (show n1 ≤ 2048 from z1)
  have zT : (n1 : Int) ≤ 2048 := by omega
  have zS : (n0 : Int) ≤ 2048 := by omega
  have zF : (f1 : Int) ≤ 2048 := by omega
  have HF := hide hf1
  clear hH h0 h1 z0 z1 hf0 hf1
  go_enter Try.func15, Try.ntmps15
  go_wp2
  go_loopw [5, 6] (fun x ix wr => ∃ (i : Nat) (ids : List Int) (v : Value), i ≤ f1 ∧ ix = .int .i64 (i : Int) ∧ x = v ∧ OwnZ w.heap.size wr v ids ∧ Hid (ids.length ≤ i ∧ ∀ z ∈ ids, RemS l1 f1 z) ∧ Below w.heap.size w wr) (fun _ ix _ => f1 - (intOf ix).toNat)
  case atStart => exact ⟨0, [], _, Nat.zero_le _, rfl, rfl, OwnZ.nil _ _, ⟨Nat.le_refl _, fun z hz => by cases hz⟩, Below.refl _ _⟩
  case round =>
    obtain ⟨i, ids, v, hi, rfl, hx, hO, hIds, gb⟩ := hrel
    obtain rfl := hx.symm
    have hHr := H.out.below gb H.out.lt
    have cF : wr.cell? ⟨g, 3, none⟩ = some (.int .i64 (f1 : Int)) := hHr.cell 3 (by omega)
    have cT : wr.cell? ⟨g, 1, none⟩ = some (.slice ad1 n1 c1) := hHr.cell 1 (by omega)
    clear hHr
    by_cases hlt : i < f1
    · have hd : decide ((i : Int) < (f1 : Int)) = true := decide_eq_true (by omega)
      have hd2 : decide (i < f1) = true := decide_eq_true hlt
      have hk0 : (0 : Int) ≤ (i : Int) := by omega
      have hltn : i < n1 := by have := HF.out; omega
      have hk1 : (i : Int) < (n1 : Int) := by omega
      obtain ⟨s, hs⟩ : ∃ s, l1[i]? = some s := ⟨_, List.getElem?_eq_getElem (by rw [HN.out]; exact hltn)⟩
      obtain ⟨b, o, had, hb1, hA⟩ := (u1.below gb).get i s hs
      rw [had] at cT
      have HS := hide hs
      have HA := hide hA
      obtain ⟨w6, w7, hW6, q1, hW7, r1, rb⟩ := newU wr s
      have Q1 := hide q1
      have R7 := hide r1
      have gb7 := gb.trans (rb.mono gb.size)
      have hO7 := hO.below rb
      have hge : w.heap.size ≤ wr.heap.size := gb.size
      have c0 : w7.cell? ⟨wr.heap.size, 0, none⟩ = some (.int .i64 s.kind) := r1.cell 0 (by omega)
      have hOU : Hid (∀ k, v.ownBlock = some k → k ≠ wr.heap.size) := fun k hk e => by have := (hO.lt k hk).2; omega
      generalize hgU : wr.heap.size = gU at Q1 R7 hge c0 hW7 hOU
      clear hs hA hb1 q1 r1 rb gb hO
      obtain ⟨t0, ht0⟩ : ∃ t, (s.kind != 1) = t := ⟨_, rfl⟩
      have HT0 := hide ht0
      go_wp2_with (first | refine wpW_load_at 43 _ rfl (b) (o + i * 36) (by rfl) (by rfl) _ 36 _ (HA.out) Try.underlying43 rfl infoU ?_ | refine wpList_storeU rfl _ _ rfl rfl gU s rfl rfl _ Q1.out ?_)
      clear hW6 hW7 Q1 hgU cF cT ht0 c0
      go_loopw [8, 9] (fun t kx wq => ∃ (tb : Bool) (k : Nat), k ≤ n0 ∧ kx = .int .i64 (k : Int) ∧ t = .bool tb ∧ Hid (tb = false → s.kind = 1) ∧ Has wq gU 43 s.v 36 ∧ OwnZ w.heap.size wq v ids ∧ Below w.heap.size w wq) (fun _ kx _ => n0 - (intOf kx).toNat)
      case atStart => exact ⟨t0, 0, Nat.zero_le _, rfl, by first | rfl | (rw [HT0.out]), (fun e => by have := HT0.out; rw [e] at this; simpa using this), R7.out, hO7, gb7⟩
      case round =>
        clear R7 gb7 hO7
        obtain ⟨tb, k, hk, rfl, rfl, hT, r7, hO7, gb7⟩ := hrel
        have hHq := H.out.below gb7 H.out.lt
        have cS : wr.cell? ⟨g, 0, none⟩ = some (.slice ad0 n0 c0) := hHq.cell 0 (by omega)
        have d1 : wr.cell? ⟨gU, 1, none⟩ = some (.int .i64 s.id) := r7.cell 1 (by omega)
        have R7 := hide r7
        clear hHq r7
        by_cases hlk : k < n0
        · have hdk : decide ((k : Int) < (n0 : Int)) = true := decide_eq_true (by omega)
          have hdk2 : decide (k < n0) = true := decide_eq_true hlk
          have hkk0 : (0 : Int) ≤ (k : Int) := by omega
          have hkk1 : (k : Int) < (n0 : Int) := by omega
          cases tb with
          | true =>
            go_wp2
            go_roundw
            case rel => exact ⟨i + 1, ids, v, by omega, by go_num, rfl, hO7, ⟨by have := hIds.out.1; omega, hIds.out.2⟩, gb7⟩
            case measure => simp [intOf]; omega
          | false =>
            obtain ⟨a, ha⟩ : ∃ a, l0[k]? = some a := ⟨_, List.getElem?_eq_getElem (by rw [HM.out]; exact hlk)⟩
            obtain ⟨b2, o2, had2, hb2, hAa⟩ := (u0.below gb7).get k a ha
            rw [had2] at cS
            have e0 : wr.cell? ⟨b2, o2 + k * 36, none⟩ = some (.int .i64 a.kind) := hAa 0 (by omega)
            have e1 : wr.cell? ⟨b2, o2 + k * 36 + 1, none⟩ = some (.int .i64 a.id) := hAa 1 (by omega)
            have hS1 : Hid (s.kind = 1) := hT.out rfl
            clear ha hAa hb2 had2
            cases ka : (a.kind == 1) with
            | true =>
              go_wp2
              refine wp_region_noPanic ?_
              refine wp_region_held_drew (S := fun wx => Below wr.heap.size wr wx) (by kernel_rfl) ((Below.refl _ _).drew) (fun hHeld => ?_)
              refine takeH 0 (some 49) (.pointer (some ⟨g, 0, none⟩)) rfl rfl (by kernel_rfl) (by kernel_rfl) (by kernel_rfl) (fun _ _ _ h => h) (by rfl) (fun w hw => by first | rfl | (go_simp; done) | (go_simp; rfl) | (go_simp; omega)) hHeld ?_
              simp only [Act.put, List.setIfInBounds_toArray, List.set_cons_zero, List.set_cons_succ]
              refine takeH 1 (some 50) (.int .i64 0) rfl rfl (by kernel_rfl) (by kernel_rfl) (by kernel_rfl) (fun _ _ _ h => h) (by rfl) (fun w hw => by first | rfl | (go_simp; done) | (go_simp; rfl) | (go_simp; omega)) hHeld ?_
              simp only [Act.put, List.setIfInBounds_toArray, List.set_cons_zero, List.set_cons_succ]
              refine takeH 2 (some 51) (.pointer (some ⟨g, 0, none⟩)) rfl rfl (by kernel_rfl) (by kernel_rfl) (by kernel_rfl) (fun _ _ _ h => h) (by rfl) (fun w hw => by first | rfl | (go_simp; done) | (go_simp; rfl) | (go_simp; omega)) hHeld ?_
              simp only [Act.put, List.setIfInBounds_toArray, List.set_cons_zero, List.set_cons_succ]
              refine takeH 3 (some 52) (.pointer (some ⟨g, 0, none⟩)) rfl rfl (by kernel_rfl) (by kernel_rfl) (by kernel_rfl) (fun _ _ _ h => h) (by rfl) (fun w hw => by first | rfl | (go_simp; done) | (go_simp; rfl) | (go_simp; omega)) hHeld ?_
              simp only [Act.put, List.setIfInBounds_toArray, List.set_cons_zero, List.set_cons_succ]
              refine takeH 4 (some 53) (.pointer (some ⟨g, 0, none⟩)) rfl rfl (by kernel_rfl) (by kernel_rfl) (by kernel_rfl) (fun _ _ _ h => h) (by rfl) (fun w hw => by first | rfl | (go_simp; done) | (go_simp; rfl) | (go_simp; omega)) hHeld ?_
              simp only [Act.put, List.setIfInBounds_toArray, List.set_cons_zero, List.set_cons_succ]
              refine takeH 5 (some 54) (.slice (some ⟨b2, o2, none⟩) n0 c0) rfl rfl (by kernel_rfl) (by kernel_rfl) (by kernel_rfl) (fun _ _ _ h => h) (by rfl) (fun w hw => by have c : w.cell? ⟨g, 0, none⟩ = some (.slice (some ⟨b2, o2, none⟩) n0 c0) := (hw.cell (World.block_lt_of_cell? _ _ cS)).trans cS; first | (go_simp; done) | (go_simp; rfl)) hHeld ?_
              simp only [Act.put, List.setIfInBounds_toArray, List.set_cons_zero, List.set_cons_succ]
              refine takeH 6 (some 55) (.int .i64 (k : Int)) rfl rfl (by kernel_rfl) (by kernel_rfl) (by kernel_rfl) (fun _ _ _ h => h) (by rfl) (fun w hw => by first | rfl | (go_simp; done) | (go_simp; rfl) | (go_simp; omega)) hHeld ?_
              simp only [Act.put, List.setIfInBounds_toArray, List.set_cons_zero, List.set_cons_succ]
              refine takeH 7 (some 56) (.pointer (some ⟨b2, o2 + k * 36, none⟩)) rfl rfl (by kernel_rfl) (by kernel_rfl) (by kernel_rfl) (fun _ _ _ h => h) (by rfl) (fun w hw => by first | rfl | (go_simp; done) | (go_simp; rfl) | (go_simp; omega)) hHeld ?_
              simp only [Act.put, List.setIfInBounds_toArray, List.set_cons_zero, List.set_cons_succ]
              refine takeH 8 (some 57) (.pointer (some ⟨b2, o2 + k * 36, none⟩)) rfl rfl (by kernel_rfl) (by kernel_rfl) (by kernel_rfl) (fun _ _ _ h => h) (by rfl) (fun w hw => by first | rfl | (go_simp; done) | (go_simp; rfl) | (go_simp; omega)) hHeld ?_
              simp only [Act.put, List.setIfInBounds_toArray, List.set_cons_zero, List.set_cons_succ]
              refine takeH 9 (some 58) (.int .i64 a.kind) rfl rfl (by kernel_rfl) (by kernel_rfl) (by kernel_rfl) (fun _ _ _ h => h) (by rfl) (fun w hw => by have c : w.cell? ⟨b2, o2 + k * 36, none⟩ = some (.int .i64 a.kind) := (hw.cell (World.block_lt_of_cell? _ _ e0)).trans e0; first | (go_simp; done) | (go_simp; rfl)) hHeld ?_
              simp only [Act.put, List.setIfInBounds_toArray, List.set_cons_zero, List.set_cons_succ]
              refine takeH 10 (some 59) (.bool false) rfl rfl (by kernel_rfl) (by kernel_rfl) (by kernel_rfl) (fun _ _ _ h => h) (by rfl) (fun w hw => by have kb : (a.kind != 1) = false := (by unfold bne; rw [ka]; rfl); first | (go_simp; done) | (go_simp; rfl) | (go_simp; simp [kb]; done)) hHeld ?_
              simp only [Act.put, List.setIfInBounds_toArray, List.set_cons_zero, List.set_cons_succ]
              refine takeH 11 (some 60) (.bool false) rfl rfl (by kernel_rfl) (by kernel_rfl) (by kernel_rfl) (fun _ _ _ h => h) (by rfl) (fun w hw => by first | rfl | (go_simp; done) | (go_simp; rfl) | (go_simp; omega)) hHeld ?_
              simp only [Act.put, List.setIfInBounds_toArray, List.set_cons_zero, List.set_cons_succ]
              refine skH 12 (some 61) rfl hHeld ?_
              simp only [Act.put, List.setIfInBounds_toArray, List.set_cons_zero, List.set_cons_succ]
              refine skH 13 (some 62) rfl hHeld ?_
              simp only [Act.put, List.setIfInBounds_toArray, List.set_cons_zero, List.set_cons_succ]
              refine skH 14 (some 63) rfl hHeld ?_
              simp only [Act.put, List.setIfInBounds_toArray, List.set_cons_zero, List.set_cons_succ]
              refine skH 15 (some 64) rfl hHeld ?_
              simp only [Act.put, List.setIfInBounds_toArray, List.set_cons_zero, List.set_cons_succ]
              refine skH 16 (some 65) rfl hHeld ?_
              simp only [Act.put, List.setIfInBounds_toArray, List.set_cons_zero, List.set_cons_succ]
              refine skH 17 (some 66) rfl hHeld ?_
              simp only [Act.put, List.setIfInBounds_toArray, List.set_cons_zero, List.set_cons_succ]
              refine skH 18 (some 67) rfl hHeld ?_
              simp only [Act.put, List.setIfInBounds_toArray, List.set_cons_zero, List.set_cons_succ]
              refine skH 19 (some 68) rfl hHeld ?_
              simp only [Act.put, List.setIfInBounds_toArray, List.set_cons_zero, List.set_cons_succ]
              refine skH 20 (some 69) rfl hHeld ?_
              simp only [Act.put, List.setIfInBounds_toArray, List.set_cons_zero, List.set_cons_succ]
              refine skH 21 (some 70) rfl hHeld ?_
              simp only [Act.put, List.setIfInBounds_toArray, List.set_cons_zero, List.set_cons_succ]
              refine skH 22 (some 71) rfl hHeld ?_
              simp only [Act.put, List.setIfInBounds_toArray, List.set_cons_zero, List.set_cons_succ]
              refine skH 23 (some 72) rfl hHeld ?_
              simp only [Act.put, List.setIfInBounds_toArray, List.set_cons_zero, List.set_cons_succ]
              refine skH 24 (some 73) rfl hHeld ?_
              simp only [Act.put, List.setIfInBounds_toArray, List.set_cons_zero, List.set_cons_succ]
              refine takeH 25 (some 74) (.bool false) rfl rfl (by kernel_rfl) (by kernel_rfl) (by kernel_rfl) (fun _ _ _ h => h) (by rfl) (fun w hw => by first | rfl | (go_simp; done) | (go_simp; rfl) | (go_simp; omega)) hHeld ?_
              simp only [Act.put, List.setIfInBounds_toArray, List.set_cons_zero, List.set_cons_succ]
              refine takeH 26 (some 8) (.bool false) rfl rfl (by kernel_rfl) (by kernel_rfl) (by kernel_rfl) (fun _ _ _ h => h) (by rfl) (fun w hw => by first | rfl | (go_simp; done) | (go_simp; rfl) | (go_simp; omega)) hHeld ?_
              simp only [Act.put, List.setIfInBounds_toArray, List.set_cons_zero, List.set_cons_succ]
              refine ⟨by kernel_rfl, ?_⟩
              refine NoPanic.normal ?_
              try go_wp2
              go_roundw
              case rel => exact ⟨_, k + 1, by omega, by go_num, rfl, fun _ => hS1.out, R7.out.below hHeld R7.out.lt, hO7.below hHeld, gb7.trans (hHeld.mono gb7.size)⟩
              case measure => simp [intOf]; omega
            | false =>
              cases ki : (a.id == s.id) with
              | false =>
                go_wp2
                refine wp_region_noPanic ?_
                refine wp_region_held_drew (S := fun wx => Below wr.heap.size wr wx) (by kernel_rfl) ((Below.refl _ _).drew) (fun hHeld => ?_)
                refine takeH 0 (some 49) (.pointer (some ⟨g, 0, none⟩)) rfl rfl (by kernel_rfl) (by kernel_rfl) (by kernel_rfl) (fun _ _ _ h => h) (by rfl) (fun w hw => by first | rfl | (go_simp; done) | (go_simp; rfl) | (go_simp; omega)) hHeld ?_
                simp only [Act.put, List.setIfInBounds_toArray, List.set_cons_zero, List.set_cons_succ]
                refine takeH 1 (some 50) (.int .i64 0) rfl rfl (by kernel_rfl) (by kernel_rfl) (by kernel_rfl) (fun _ _ _ h => h) (by rfl) (fun w hw => by first | rfl | (go_simp; done) | (go_simp; rfl) | (go_simp; omega)) hHeld ?_
                simp only [Act.put, List.setIfInBounds_toArray, List.set_cons_zero, List.set_cons_succ]
                refine takeH 2 (some 51) (.pointer (some ⟨g, 0, none⟩)) rfl rfl (by kernel_rfl) (by kernel_rfl) (by kernel_rfl) (fun _ _ _ h => h) (by rfl) (fun w hw => by first | rfl | (go_simp; done) | (go_simp; rfl) | (go_simp; omega)) hHeld ?_
                simp only [Act.put, List.setIfInBounds_toArray, List.set_cons_zero, List.set_cons_succ]
                refine takeH 3 (some 52) (.pointer (some ⟨g, 0, none⟩)) rfl rfl (by kernel_rfl) (by kernel_rfl) (by kernel_rfl) (fun _ _ _ h => h) (by rfl) (fun w hw => by first | rfl | (go_simp; done) | (go_simp; rfl) | (go_simp; omega)) hHeld ?_
                simp only [Act.put, List.setIfInBounds_toArray, List.set_cons_zero, List.set_cons_succ]
                refine takeH 4 (some 53) (.pointer (some ⟨g, 0, none⟩)) rfl rfl (by kernel_rfl) (by kernel_rfl) (by kernel_rfl) (fun _ _ _ h => h) (by rfl) (fun w hw => by first | rfl | (go_simp; done) | (go_simp; rfl) | (go_simp; omega)) hHeld ?_
                simp only [Act.put, List.setIfInBounds_toArray, List.set_cons_zero, List.set_cons_succ]
                refine takeH 5 (some 54) (.slice (some ⟨b2, o2, none⟩) n0 c0) rfl rfl (by kernel_rfl) (by kernel_rfl) (by kernel_rfl) (fun _ _ _ h => h) (by rfl) (fun w hw => by have c : w.cell? ⟨g, 0, none⟩ = some (.slice (some ⟨b2, o2, none⟩) n0 c0) := (hw.cell (World.block_lt_of_cell? _ _ cS)).trans cS; first | (go_simp; done) | (go_simp; rfl)) hHeld ?_
                simp only [Act.put, List.setIfInBounds_toArray, List.set_cons_zero, List.set_cons_succ]
                refine takeH 6 (some 55) (.int .i64 (k : Int)) rfl rfl (by kernel_rfl) (by kernel_rfl) (by kernel_rfl) (fun _ _ _ h => h) (by rfl) (fun w hw => by first | rfl | (go_simp; done) | (go_simp; rfl) | (go_simp; omega)) hHeld ?_
                simp only [Act.put, List.setIfInBounds_toArray, List.set_cons_zero, List.set_cons_succ]
                refine takeH 7 (some 56) (.pointer (some ⟨b2, o2 + k * 36, none⟩)) rfl rfl (by kernel_rfl) (by kernel_rfl) (by kernel_rfl) (fun _ _ _ h => h) (by rfl) (fun w hw => by first | rfl | (go_simp; done) | (go_simp; rfl) | (go_simp; omega)) hHeld ?_
                simp only [Act.put, List.setIfInBounds_toArray, List.set_cons_zero, List.set_cons_succ]
                refine takeH 8 (some 57) (.pointer (some ⟨b2, o2 + k * 36, none⟩)) rfl rfl (by kernel_rfl) (by kernel_rfl) (by kernel_rfl) (fun _ _ _ h => h) (by rfl) (fun w hw => by first | rfl | (go_simp; done) | (go_simp; rfl) | (go_simp; omega)) hHeld ?_
                simp only [Act.put, List.setIfInBounds_toArray, List.set_cons_zero, List.set_cons_succ]
                refine takeH 9 (some 58) (.int .i64 a.kind) rfl rfl (by kernel_rfl) (by kernel_rfl) (by kernel_rfl) (fun _ _ _ h => h) (by rfl) (fun w hw => by have c : w.cell? ⟨b2, o2 + k * 36, none⟩ = some (.int .i64 a.kind) := (hw.cell (World.block_lt_of_cell? _ _ e0)).trans e0; first | (go_simp; done) | (go_simp; rfl)) hHeld ?_
                simp only [Act.put, List.setIfInBounds_toArray, List.set_cons_zero, List.set_cons_succ]
                refine takeH 10 (some 59) (.bool true) rfl rfl (by kernel_rfl) (by kernel_rfl) (by kernel_rfl) (fun _ _ _ h => h) (by rfl) (fun w hw => by have kb : (a.kind != 1) = true := (by unfold bne; rw [ka]; rfl); first | (go_simp; done) | (go_simp; rfl) | (go_simp; simp [kb]; done)) hHeld ?_
                simp only [Act.put, List.setIfInBounds_toArray, List.set_cons_zero, List.set_cons_succ]
                refine takeH 11 (some 60) (.bool true) rfl rfl (by kernel_rfl) (by kernel_rfl) (by kernel_rfl) (fun _ _ _ h => h) (by rfl) (fun w hw => by first | rfl | (go_simp; done) | (go_simp; rfl) | (go_simp; omega)) hHeld ?_
                simp only [Act.put, List.setIfInBounds_toArray, List.set_cons_zero, List.set_cons_succ]
                refine takeH 12 (some 61) (.pointer (some ⟨g, 0, none⟩)) rfl rfl (by kernel_rfl) (by kernel_rfl) (by kernel_rfl) (fun _ _ _ h => h) (by rfl) (fun w hw => by first | rfl | (go_simp; done) | (go_simp; rfl) | (go_simp; omega)) hHeld ?_
                simp only [Act.put, List.setIfInBounds_toArray, List.set_cons_zero, List.set_cons_succ]
                refine takeH 13 (some 62) (.int .i64 0) rfl rfl (by kernel_rfl) (by kernel_rfl) (by kernel_rfl) (fun _ _ _ h => h) (by rfl) (fun w hw => by first | rfl | (go_simp; done) | (go_simp; rfl) | (go_simp; omega)) hHeld ?_
                simp only [Act.put, List.setIfInBounds_toArray, List.set_cons_zero, List.set_cons_succ]
                refine takeH 14 (some 63) (.pointer (some ⟨g, 0, none⟩)) rfl rfl (by kernel_rfl) (by kernel_rfl) (by kernel_rfl) (fun _ _ _ h => h) (by rfl) (fun w hw => by first | rfl | (go_simp; done) | (go_simp; rfl) | (go_simp; omega)) hHeld ?_
                simp only [Act.put, List.setIfInBounds_toArray, List.set_cons_zero, List.set_cons_succ]
                refine takeH 15 (some 64) (.pointer (some ⟨g, 0, none⟩)) rfl rfl (by kernel_rfl) (by kernel_rfl) (by kernel_rfl) (fun _ _ _ h => h) (by rfl) (fun w hw => by first | rfl | (go_simp; done) | (go_simp; rfl) | (go_simp; omega)) hHeld ?_
                simp only [Act.put, List.setIfInBounds_toArray, List.set_cons_zero, List.set_cons_succ]
                refine takeH 16 (some 65) (.pointer (some ⟨g, 0, none⟩)) rfl rfl (by kernel_rfl) (by kernel_rfl) (by kernel_rfl) (fun _ _ _ h => h) (by rfl) (fun w hw => by first | rfl | (go_simp; done) | (go_simp; rfl) | (go_simp; omega)) hHeld ?_
                simp only [Act.put, List.setIfInBounds_toArray, List.set_cons_zero, List.set_cons_succ]
                refine takeH 17 (some 66) (.slice (some ⟨b2, o2, none⟩) n0 c0) rfl rfl (by kernel_rfl) (by kernel_rfl) (by kernel_rfl) (fun _ _ _ h => h) (by rfl) (fun w hw => by have c : w.cell? ⟨g, 0, none⟩ = some (.slice (some ⟨b2, o2, none⟩) n0 c0) := (hw.cell (World.block_lt_of_cell? _ _ cS)).trans cS; first | (go_simp; done) | (go_simp; rfl)) hHeld ?_
                simp only [Act.put, List.setIfInBounds_toArray, List.set_cons_zero, List.set_cons_succ]
                refine takeH 18 (some 67) (.int .i64 (k : Int)) rfl rfl (by kernel_rfl) (by kernel_rfl) (by kernel_rfl) (fun _ _ _ h => h) (by rfl) (fun w hw => by first | rfl | (go_simp; done) | (go_simp; rfl) | (go_simp; omega)) hHeld ?_
                simp only [Act.put, List.setIfInBounds_toArray, List.set_cons_zero, List.set_cons_succ]
                refine takeH 19 (some 68) (.pointer (some ⟨b2, o2 + k * 36, none⟩)) rfl rfl (by kernel_rfl) (by kernel_rfl) (by kernel_rfl) (fun _ _ _ h => h) (by rfl) (fun w hw => by first | rfl | (go_simp; done) | (go_simp; rfl) | (go_simp; omega)) hHeld ?_
                simp only [Act.put, List.setIfInBounds_toArray, List.set_cons_zero, List.set_cons_succ]
                refine takeH 20 (some 69) (.pointer (some ⟨b2, o2 + k * 36 + 1, none⟩)) rfl rfl (by kernel_rfl) (by kernel_rfl) (by kernel_rfl) (fun _ _ _ h => h) (by rfl) (fun w hw => by first | rfl | (go_simp; done) | (go_simp; rfl) | (go_simp; omega)) hHeld ?_
                simp only [Act.put, List.setIfInBounds_toArray, List.set_cons_zero, List.set_cons_succ]
                refine takeH 21 (some 70) (.int .i64 a.id) rfl rfl (by kernel_rfl) (by kernel_rfl) (by kernel_rfl) (fun _ _ _ h => h) (by rfl) (fun w hw => by have c : w.cell? ⟨b2, o2 + k * 36 + 1, none⟩ = some (.int .i64 a.id) := (hw.cell (World.block_lt_of_cell? _ _ e1)).trans e1; first | (go_simp; done) | (go_simp; rfl)) hHeld ?_
                simp only [Act.put, List.setIfInBounds_toArray, List.set_cons_zero, List.set_cons_succ]
                refine takeH 22 (some 71) (.pointer (some ⟨gU, 1, none⟩)) rfl rfl (by kernel_rfl) (by kernel_rfl) (by kernel_rfl) (fun _ _ _ h => h) (by rfl) (fun w hw => by first | rfl | (go_simp; done) | (go_simp; rfl) | (go_simp; omega)) hHeld ?_
                simp only [Act.put, List.setIfInBounds_toArray, List.set_cons_zero, List.set_cons_succ]
                refine takeH 23 (some 72) (.int .i64 s.id) rfl rfl (by kernel_rfl) (by kernel_rfl) (by kernel_rfl) (fun _ _ _ h => h) (by rfl) (fun w hw => by have c : w.cell? ⟨gU, 1, none⟩ = some (.int .i64 s.id) := (hw.cell (World.block_lt_of_cell? _ _ d1)).trans d1; first | (go_simp; done) | (go_simp; rfl)) hHeld ?_
                simp only [Act.put, List.setIfInBounds_toArray, List.set_cons_zero, List.set_cons_succ]
                refine takeH 24 (some 73) (.bool false) rfl rfl (by kernel_rfl) (by kernel_rfl) (by kernel_rfl) (fun _ _ _ h => h) (by rfl) (fun w hw => by first | rfl | (go_simp; done) | (go_simp; rfl) | (go_simp; omega)) hHeld ?_
                simp only [Act.put, List.setIfInBounds_toArray, List.set_cons_zero, List.set_cons_succ]
                refine takeH 25 (some 74) (.bool false) rfl rfl (by kernel_rfl) (by kernel_rfl) (by kernel_rfl) (fun _ _ _ h => h) (by rfl) (fun w hw => by first | rfl | (go_simp; done) | (go_simp; rfl) | (go_simp; omega)) hHeld ?_
                simp only [Act.put, List.setIfInBounds_toArray, List.set_cons_zero, List.set_cons_succ]
                refine takeH 26 (some 8) (.bool false) rfl rfl (by kernel_rfl) (by kernel_rfl) (by kernel_rfl) (fun _ _ _ h => h) (by rfl) (fun w hw => by first | rfl | (go_simp; done) | (go_simp; rfl) | (go_simp; omega)) hHeld ?_
                simp only [Act.put, List.setIfInBounds_toArray, List.set_cons_zero, List.set_cons_succ]
                refine ⟨by kernel_rfl, ?_⟩
                refine NoPanic.normal ?_
                try go_wp2
                go_roundw
                case rel => exact ⟨_, k + 1, by omega, by go_num, rfl, fun _ => hS1.out, R7.out.below hHeld R7.out.lt, hO7.below hHeld, gb7.trans (hHeld.mono gb7.size)⟩
                case measure => simp [intOf]; omega
              | true =>
                go_wp2
                refine wp_region_noPanic ?_
                refine wp_region_held_drew (S := fun wx => Below wr.heap.size wr wx) (by kernel_rfl) ((Below.refl _ _).drew) (fun hHeld => ?_)
                refine takeH 0 (some 49) (.pointer (some ⟨g, 0, none⟩)) rfl rfl (by kernel_rfl) (by kernel_rfl) (by kernel_rfl) (fun _ _ _ h => h) (by rfl) (fun w hw => by first | rfl | (go_simp; done) | (go_simp; rfl) | (go_simp; omega)) hHeld ?_
                simp only [Act.put, List.setIfInBounds_toArray, List.set_cons_zero, List.set_cons_succ]
                refine takeH 1 (some 50) (.int .i64 0) rfl rfl (by kernel_rfl) (by kernel_rfl) (by kernel_rfl) (fun _ _ _ h => h) (by rfl) (fun w hw => by first | rfl | (go_simp; done) | (go_simp; rfl) | (go_simp; omega)) hHeld ?_
                simp only [Act.put, List.setIfInBounds_toArray, List.set_cons_zero, List.set_cons_succ]
                refine takeH 2 (some 51) (.pointer (some ⟨g, 0, none⟩)) rfl rfl (by kernel_rfl) (by kernel_rfl) (by kernel_rfl) (fun _ _ _ h => h) (by rfl) (fun w hw => by first | rfl | (go_simp; done) | (go_simp; rfl) | (go_simp; omega)) hHeld ?_
                simp only [Act.put, List.setIfInBounds_toArray, List.set_cons_zero, List.set_cons_succ]
                refine takeH 3 (some 52) (.pointer (some ⟨g, 0, none⟩)) rfl rfl (by kernel_rfl) (by kernel_rfl) (by kernel_rfl) (fun _ _ _ h => h) (by rfl) (fun w hw => by first | rfl | (go_simp; done) | (go_simp; rfl) | (go_simp; omega)) hHeld ?_
                simp only [Act.put, List.setIfInBounds_toArray, List.set_cons_zero, List.set_cons_succ]
                refine takeH 4 (some 53) (.pointer (some ⟨g, 0, none⟩)) rfl rfl (by kernel_rfl) (by kernel_rfl) (by kernel_rfl) (fun _ _ _ h => h) (by rfl) (fun w hw => by first | rfl | (go_simp; done) | (go_simp; rfl) | (go_simp; omega)) hHeld ?_
                simp only [Act.put, List.setIfInBounds_toArray, List.set_cons_zero, List.set_cons_succ]
                refine takeH 5 (some 54) (.slice (some ⟨b2, o2, none⟩) n0 c0) rfl rfl (by kernel_rfl) (by kernel_rfl) (by kernel_rfl) (fun _ _ _ h => h) (by rfl) (fun w hw => by have c : w.cell? ⟨g, 0, none⟩ = some (.slice (some ⟨b2, o2, none⟩) n0 c0) := (hw.cell (World.block_lt_of_cell? _ _ cS)).trans cS; first | (go_simp; done) | (go_simp; rfl)) hHeld ?_
                simp only [Act.put, List.setIfInBounds_toArray, List.set_cons_zero, List.set_cons_succ]
                refine takeH 6 (some 55) (.int .i64 (k : Int)) rfl rfl (by kernel_rfl) (by kernel_rfl) (by kernel_rfl) (fun _ _ _ h => h) (by rfl) (fun w hw => by first | rfl | (go_simp; done) | (go_simp; rfl) | (go_simp; omega)) hHeld ?_
                simp only [Act.put, List.setIfInBounds_toArray, List.set_cons_zero, List.set_cons_succ]
                refine takeH 7 (some 56) (.pointer (some ⟨b2, o2 + k * 36, none⟩)) rfl rfl (by kernel_rfl) (by kernel_rfl) (by kernel_rfl) (fun _ _ _ h => h) (by rfl) (fun w hw => by first | rfl | (go_simp; done) | (go_simp; rfl) | (go_simp; omega)) hHeld ?_
                simp only [Act.put, List.setIfInBounds_toArray, List.set_cons_zero, List.set_cons_succ]
                refine takeH 8 (some 57) (.pointer (some ⟨b2, o2 + k * 36, none⟩)) rfl rfl (by kernel_rfl) (by kernel_rfl) (by kernel_rfl) (fun _ _ _ h => h) (by rfl) (fun w hw => by first | rfl | (go_simp; done) | (go_simp; rfl) | (go_simp; omega)) hHeld ?_
                simp only [Act.put, List.setIfInBounds_toArray, List.set_cons_zero, List.set_cons_succ]
                refine takeH 9 (some 58) (.int .i64 a.kind) rfl rfl (by kernel_rfl) (by kernel_rfl) (by kernel_rfl) (fun _ _ _ h => h) (by rfl) (fun w hw => by have c : w.cell? ⟨b2, o2 + k * 36, none⟩ = some (.int .i64 a.kind) := (hw.cell (World.block_lt_of_cell? _ _ e0)).trans e0; first | (go_simp; done) | (go_simp; rfl)) hHeld ?_
                simp only [Act.put, List.setIfInBounds_toArray, List.set_cons_zero, List.set_cons_succ]
                refine takeH 10 (some 59) (.bool true) rfl rfl (by kernel_rfl) (by kernel_rfl) (by kernel_rfl) (fun _ _ _ h => h) (by rfl) (fun w hw => by have kb : (a.kind != 1) = true := (by unfold bne; rw [ka]; rfl); first | (go_simp; done) | (go_simp; rfl) | (go_simp; simp [kb]; done)) hHeld ?_
                simp only [Act.put, List.setIfInBounds_toArray, List.set_cons_zero, List.set_cons_succ]
                refine takeH 11 (some 60) (.bool true) rfl rfl (by kernel_rfl) (by kernel_rfl) (by kernel_rfl) (fun _ _ _ h => h) (by rfl) (fun w hw => by first | rfl | (go_simp; done) | (go_simp; rfl) | (go_simp; omega)) hHeld ?_
                simp only [Act.put, List.setIfInBounds_toArray, List.set_cons_zero, List.set_cons_succ]
                refine takeH 12 (some 61) (.pointer (some ⟨g, 0, none⟩)) rfl rfl (by kernel_rfl) (by kernel_rfl) (by kernel_rfl) (fun _ _ _ h => h) (by rfl) (fun w hw => by first | rfl | (go_simp; done) | (go_simp; rfl) | (go_simp; omega)) hHeld ?_
                simp only [Act.put, List.setIfInBounds_toArray, List.set_cons_zero, List.set_cons_succ]
                refine takeH 13 (some 62) (.int .i64 0) rfl rfl (by kernel_rfl) (by kernel_rfl) (by kernel_rfl) (fun _ _ _ h => h) (by rfl) (fun w hw => by first | rfl | (go_simp; done) | (go_simp; rfl) | (go_simp; omega)) hHeld ?_
                simp only [Act.put, List.setIfInBounds_toArray, List.set_cons_zero, List.set_cons_succ]
                refine takeH 14 (some 63) (.pointer (some ⟨g, 0, none⟩)) rfl rfl (by kernel_rfl) (by kernel_rfl) (by kernel_rfl) (fun _ _ _ h => h) (by rfl) (fun w hw => by first | rfl | (go_simp; done) | (go_simp; rfl) | (go_simp; omega)) hHeld ?_
                simp only [Act.put, List.setIfInBounds_toArray, List.set_cons_zero, List.set_cons_succ]
                refine takeH 15 (some 64) (.pointer (some ⟨g, 0, none⟩)) rfl rfl (by kernel_rfl) (by kernel_rfl) (by kernel_rfl) (fun _ _ _ h => h) (by rfl) (fun w hw => by first | rfl | (go_simp; done) | (go_simp; rfl) | (go_simp; omega)) hHeld ?_
                simp only [Act.put, List.setIfInBounds_toArray, List.set_cons_zero, List.set_cons_succ]
                refine takeH 16 (some 65) (.pointer (some ⟨g, 0, none⟩)) rfl rfl (by kernel_rfl) (by kernel_rfl) (by kernel_rfl) (fun _ _ _ h => h) (by rfl) (fun w hw => by first | rfl | (go_simp; done) | (go_simp; rfl) | (go_simp; omega)) hHeld ?_
                simp only [Act.put, List.setIfInBounds_toArray, List.set_cons_zero, List.set_cons_succ]
                refine takeH 17 (some 66) (.slice (some ⟨b2, o2, none⟩) n0 c0) rfl rfl (by kernel_rfl) (by kernel_rfl) (by kernel_rfl) (fun _ _ _ h => h) (by rfl) (fun w hw => by have c : w.cell? ⟨g, 0, none⟩ = some (.slice (some ⟨b2, o2, none⟩) n0 c0) := (hw.cell (World.block_lt_of_cell? _ _ cS)).trans cS; first | (go_simp; done) | (go_simp; rfl)) hHeld ?_
                simp only [Act.put, List.setIfInBounds_toArray, List.set_cons_zero, List.set_cons_succ]
                refine takeH 18 (some 67) (.int .i64 (k : Int)) rfl rfl (by kernel_rfl) (by kernel_rfl) (by kernel_rfl) (fun _ _ _ h => h) (by rfl) (fun w hw => by first | rfl | (go_simp; done) | (go_simp; rfl) | (go_simp; omega)) hHeld ?_
                simp only [Act.put, List.setIfInBounds_toArray, List.set_cons_zero, List.set_cons_succ]
                refine takeH 19 (some 68) (.pointer (some ⟨b2, o2 + k * 36, none⟩)) rfl rfl (by kernel_rfl) (by kernel_rfl) (by kernel_rfl) (fun _ _ _ h => h) (by rfl) (fun w hw => by first | rfl | (go_simp; done) | (go_simp; rfl) | (go_simp; omega)) hHeld ?_
                simp only [Act.put, List.setIfInBounds_toArray, List.set_cons_zero, List.set_cons_succ]
                refine takeH 20 (some 69) (.pointer (some ⟨b2, o2 + k * 36 + 1, none⟩)) rfl rfl (by kernel_rfl) (by kernel_rfl) (by kernel_rfl) (fun _ _ _ h => h) (by rfl) (fun w hw => by first | rfl | (go_simp; done) | (go_simp; rfl) | (go_simp; omega)) hHeld ?_
                simp only [Act.put, List.setIfInBounds_toArray, List.set_cons_zero, List.set_cons_succ]
                refine takeH 21 (some 70) (.int .i64 a.id) rfl rfl (by kernel_rfl) (by kernel_rfl) (by kernel_rfl) (fun _ _ _ h => h) (by rfl) (fun w hw => by have c : w.cell? ⟨b2, o2 + k * 36 + 1, none⟩ = some (.int .i64 a.id) := (hw.cell (World.block_lt_of_cell? _ _ e1)).trans e1; first | (go_simp; done) | (go_simp; rfl)) hHeld ?_
                simp only [Act.put, List.setIfInBounds_toArray, List.set_cons_zero, List.set_cons_succ]
                refine takeH 22 (some 71) (.pointer (some ⟨gU, 1, none⟩)) rfl rfl (by kernel_rfl) (by kernel_rfl) (by kernel_rfl) (fun _ _ _ h => h) (by rfl) (fun w hw => by first | rfl | (go_simp; done) | (go_simp; rfl) | (go_simp; omega)) hHeld ?_
                simp only [Act.put, List.setIfInBounds_toArray, List.set_cons_zero, List.set_cons_succ]
                refine takeH 23 (some 72) (.int .i64 s.id) rfl rfl (by kernel_rfl) (by kernel_rfl) (by kernel_rfl) (fun _ _ _ h => h) (by rfl) (fun w hw => by have c : w.cell? ⟨gU, 1, none⟩ = some (.int .i64 s.id) := (hw.cell (World.block_lt_of_cell? _ _ d1)).trans d1; first | (go_simp; done) | (go_simp; rfl)) hHeld ?_
                simp only [Act.put, List.setIfInBounds_toArray, List.set_cons_zero, List.set_cons_succ]
                refine takeH 24 (some 73) (.bool true) rfl rfl (by kernel_rfl) (by kernel_rfl) (by kernel_rfl) (fun _ _ _ h => h) (by rfl) (fun w hw => by first | rfl | (go_simp; done) | (go_simp; rfl) | (go_simp; omega)) hHeld ?_
                simp only [Act.put, List.setIfInBounds_toArray, List.set_cons_zero, List.set_cons_succ]
                refine takeH 25 (some 74) (.bool true) rfl rfl (by kernel_rfl) (by kernel_rfl) (by kernel_rfl) (fun _ _ _ h => h) (by rfl) (fun w hw => by first | rfl | (go_simp; done) | (go_simp; rfl) | (go_simp; omega)) hHeld ?_
                simp only [Act.put, List.setIfInBounds_toArray, List.set_cons_zero, List.set_cons_succ]
                refine takeH 26 (some 8) (.bool true) rfl rfl (by kernel_rfl) (by kernel_rfl) (by kernel_rfl) (fun _ _ _ h => h) (by rfl) (fun w hw => by first | rfl | (go_simp; done) | (go_simp; rfl) | (go_simp; omega)) hHeld ?_
                simp only [Act.put, List.setIfInBounds_toArray, List.set_cons_zero, List.set_cons_succ]
                refine ⟨by kernel_rfl, ?_⟩
                refine NoPanic.normal ?_
                try go_wp2
                go_roundw
                case rel => exact ⟨_, k + 1, by omega, by go_num, rfl, fun _ => hS1.out, R7.out.below hHeld R7.out.lt, hO7.below hHeld, gb7.trans (hHeld.mono gb7.size)⟩
                case measure => simp [intOf]; omega
        · have hdk : decide ((k : Int) < (n0 : Int)) = false := decide_eq_false (by omega)
          have hdk2 : decide (k < n0) = false := decide_eq_false hlk
          cases tb with
          | true =>
            go_wp2
            go_roundw
            case rel => exact ⟨i + 1, ids, v, by omega, by go_num, rfl, hO7, ⟨by have := hIds.out.1; omega, hIds.out.2⟩, gb7⟩
            case measure => simp [intOf]; omega
          | false =>
            have hS1 : Hid (s.kind = 1) := hT.out rfl
            obtain ⟨v', wa, wb, E1, E2, hOb, hkp, hbb⟩ := hO7.app s.id (by have := hIds.out.1; have := HZ.out; omega) gb7.size
            have E1h := hide E1
            have E2h := hide E2
            clear E1 E2
            go_wp2_with (first | refine wpList_slice1 rfl 59 _ rfl (.int .i64 s.id) rfl E1h.out ?_ | refine wpList_app rfl _ _ _ rfl E2h.out ?_)
            go_roundw
            case rel => exact ⟨i + 1, ids ++ [s.id], v', by omega, by go_num, rfl, hOb, ⟨by rw [List.length_append]; have := hIds.out.1; simp; omega, fun z hz => by
              rcases List.mem_append.1 hz with hz | hz
              · exact hIds.out.2 z hz
              · rw [List.mem_singleton] at hz; subst hz; exact ⟨i, s, hlt, HS.out, hS1.out, rfl⟩⟩, gb7.trans hbb⟩
            case measure => simp [intOf]; omega
    · have hif : i = f1 := by omega
      subst hif
      have hd : decide ((i : Int) < (i : Int)) = false := decide_eq_false (by omega)
      have hd2 : decide (i < i) = false := decide_eq_false (by omega)
      go_wp2
      go_ret
      exact ⟨_, rfl, ⟨ids, hO, hIds.out.1, hIds.out.2⟩, gb⟩
set_option maxRecDepth 100000 in
set_option maxHeartbeats 4000000 in
theorem remov1_any (g : Nat) (ad0 ad1 : Option Addr) (n0 c0 n1 c1 : Nat) (l0 l1 : List Upd) (h0 : l0.length = n0) (h1 : l1.length = n1) (z0 : n0 ≤ 2048) (z1 : n1 ≤ 2048) (f0 f1 : Nat) (hf0 : f0 ≤ n0) (hf1 : f1 ≤ n1) (b0 b1 : Int) (w : World) (hH : Has w g 30 (bkv (.slice ad0 n0 c0) (.slice ad1 n1 c1) f0 f1 b0 b1) 6) (u0 : Upds w ad0 l0) (u1 : Upds w ad1 l1) : Calls Try.prog 15 #[.pointer (some ⟨g, 0, none⟩), .int .i64 1] w fun e w' => ∃ v, e = .returned v ∧ (∃ ids, OwnZ w.heap.size w' v ids ∧ ids.length ≤ f0 ∧ ∀ z ∈ ids, RemS l0 f0 z) ∧ Below w.heap.size w w' := by
  have H := hide hH
  have HN := hide h0
  have HM := hide h1
  have HZ := hide (show n0 ≤ 2048 from z0)
  have zT : (n0 : Int) ≤ 2048 := by omega
  have zS : (n1 : Int) ≤ 2048 := by omega
  have zF : (f0 : Int) ≤ 2048 := by omega
  have HF := hide hf0
  clear hH h0 h1 z0 z1 hf0 hf1
  go_enter Try.func15, Try.ntmps15
  go_wp2
  go_loopw [5, 6] (fun x ix wr => ∃ (i : Nat) (ids : List Int) (v : Value), i ≤ f0 ∧ ix = .int .i64 (i : Int) ∧ x = v ∧ OwnZ w.heap.size wr v ids ∧ Hid (ids.length ≤ i ∧ ∀ z ∈ ids, RemS l0 f0 z) ∧ Below w.heap.size w wr) (fun _ ix _ => f0 - (intOf ix).toNat)
  case atStart => exact ⟨0, [], _, Nat.zero_le _, rfl, rfl, OwnZ.nil _ _, ⟨Nat.le_refl _, fun z hz => by cases hz⟩, Below.refl _ _⟩
  case round =>
    obtain ⟨i, ids, v, hi, rfl, hx, hO, hIds, gb⟩ := hrel
    obtain rfl := hx.symm
    have hHr := H.out.below gb H.out.lt
    have cF : wr.cell? ⟨g, 2, none⟩ = some (.int .i64 (f0 : Int)) := hHr.cell 2 (by omega)
    have cT : wr.cell? ⟨g, 0, none⟩ = some (.slice ad0 n0 c0) := hHr.cell 0 (by omega)
    clear hHr
    by_cases hlt : i < f0
    · have hd : decide ((i : Int) < (f0 : Int)) = true := decide_eq_true (by omega)
      have hd2 : decide (i < f0) = true := decide_eq_true hlt
      have hk0 : (0 : Int) ≤ (i : Int) := by omega
      have hltn : i < n0 := by have := HF.out; omega
      have hk1 : (i : Int) < (n0 : Int) := by omega
      obtain ⟨s, hs⟩ : ∃ s, l0[i]? = some s := ⟨_, List.getElem?_eq_getElem (by rw [HN.out]; exact hltn)⟩
      obtain ⟨b, o, had, hb1, hA⟩ := (u0.below gb).get i s hs
      rw [had] at cT
      have HS := hide hs
      have HA := hide hA
      obtain ⟨w6, w7, hW6, q1, hW7, r1, rb⟩ := newU wr s
      have Q1 := hide q1
      have R7 := hide r1
      have gb7 := gb.trans (rb.mono gb.size)
      have hO7 := hO.below rb
      have hge : w.heap.size ≤ wr.heap.size := gb.size
      have c0 : w7.cell? ⟨wr.heap.size, 0, none⟩ = some (.int .i64 s.kind) := r1.cell 0 (by omega)
      have hOU : Hid (∀ k, v.ownBlock = some k → k ≠ wr.heap.size) := fun k hk e => by have := (hO.lt k hk).2; omega
      generalize hgU : wr.heap.size = gU at Q1 R7 hge c0 hW7 hOU
      clear hs hA hb1 q1 r1 rb gb hO
      obtain ⟨t0, ht0⟩ : ∃ t, (s.kind != 1) = t := ⟨_, rfl⟩
      have HT0 := hide ht0
      go_wp2_with (first | refine wpW_load_at 43 _ rfl (b) (o + i * 36) (by rfl) (by rfl) _ 36 _ (HA.out) Try.underlying43 rfl infoU ?_ | refine wpList_storeU rfl _ _ rfl rfl gU s rfl rfl _ Q1.out ?_)
      clear hW6 hW7 Q1 hgU cF cT ht0 c0
      go_loopw [8, 9] (fun t kx wq => ∃ (tb : Bool) (k : Nat), k ≤ n1 ∧ kx = .int .i64 (k : Int) ∧ t = .bool tb ∧ Hid (tb = false → s.kind = 1) ∧ Has wq gU 43 s.v 36 ∧ OwnZ w.heap.size wq v ids ∧ Below w.heap.size w wq) (fun _ kx _ => n1 - (intOf kx).toNat)
      case atStart => exact ⟨t0, 0, Nat.zero_le _, rfl, by first | rfl | (rw [HT0.out]), (fun e => by have := HT0.out; rw [e] at this; simpa using this), R7.out, hO7, gb7⟩
      case round =>
        clear R7 gb7 hO7
        obtain ⟨tb, k, hk, rfl, rfl, hT, r7, hO7, gb7⟩ := hrel
        have hHq := H.out.below gb7 H.out.lt
        have cS : wr.cell? ⟨g, 1, none⟩ = some (.slice ad1 n1 c1) := hHq.cell 1 (by omega)
        have d1 : wr.cell? ⟨gU, 1, none⟩ = some (.int .i64 s.id) := r7.cell 1 (by omega)
        have R7 := hide r7
        clear hHq r7
        by_cases hlk : k < n1
        · have hdk : decide ((k : Int) < (n1 : Int)) = true := decide_eq_true (by omega)
          have hdk2 : decide (k < n1) = true := decide_eq_true hlk
          have hkk0 : (0 : Int) ≤ (k : Int) := by omega
          have hkk1 : (k : Int) < (n1 : Int) := by omega
          cases tb with
          | true =>
            go_wp2
            go_roundw
            case rel => exact ⟨i + 1, ids, v, by omega, by go_num, rfl, hO7, ⟨by have := hIds.out.1; omega, hIds.out.2⟩, gb7⟩
            case measure => simp [intOf]; omega
          | false =>
            obtain ⟨a, ha⟩ : ∃ a, l1[k]? = some a := ⟨_, List.getElem?_eq_getElem (by rw [HM.out]; exact hlk)⟩
            obtain ⟨b2, o2, had2, hb2, hAa⟩ := (u1.below gb7).get k a ha
            rw [had2] at cS
            have e0 : wr.cell? ⟨b2, o2 + k * 36, none⟩ = some (.int .i64 a.kind) := hAa 0 (by omega)
            have e1 : wr.cell? ⟨b2, o2 + k * 36 + 1, none⟩ = some (.int .i64 a.id) := hAa 1 (by omega)
            have hS1 : Hid (s.kind = 1) := hT.out rfl
            clear ha hAa hb2 had2
            cases ka : (a.kind == 1) with
            | true =>
              go_wp2
              refine wp_region_noPanic ?_
              refine wp_region_held_drew (S := fun wx => Below wr.heap.size wr wx) (by kernel_rfl) ((Below.refl _ _).drew) (fun hHeld => ?_)
              refine takeH 0 (some 49) (.pointer (some ⟨g, 0, none⟩)) rfl rfl (by kernel_rfl) (by kernel_rfl) (by kernel_rfl) (fun _ _ _ h => h) (by rfl) (fun w hw => by first | rfl | (go_simp; done) | (go_simp; rfl) | (go_simp; omega)) hHeld ?_
              simp only [Act.put, List.setIfInBounds_toArray, List.set_cons_zero, List.set_cons_succ]
              refine takeH 1 (some 50) (.int .i64 1) rfl rfl (by kernel_rfl) (by kernel_rfl) (by kernel_rfl) (fun _ _ _ h => h) (by rfl) (fun w hw => by first | rfl | (go_simp; done) | (go_simp; rfl) | (go_simp; omega)) hHeld ?_
              simp only [Act.put, List.setIfInBounds_toArray, List.set_cons_zero, List.set_cons_succ]
              refine takeH 2 (some 51) (.pointer (some ⟨g, 0, none⟩)) rfl rfl (by kernel_rfl) (by kernel_rfl) (by kernel_rfl) (fun _ _ _ h => h) (by rfl) (fun w hw => by first | rfl | (go_simp; done) | (go_simp; rfl) | (go_simp; omega)) hHeld ?_
              simp only [Act.put, List.setIfInBounds_toArray, List.set_cons_zero, List.set_cons_succ]
              refine takeH 3 (some 52) (.pointer (some ⟨g, 0, none⟩)) rfl rfl (by kernel_rfl) (by kernel_rfl) (by kernel_rfl) (fun _ _ _ h => h) (by rfl) (fun w hw => by first | rfl | (go_simp; done) | (go_simp; rfl) | (go_simp; omega)) hHeld ?_
              simp only [Act.put, List.setIfInBounds_toArray, List.set_cons_zero, List.set_cons_succ]
              refine takeH 4 (some 53) (.pointer (some ⟨g, 1, none⟩)) rfl rfl (by kernel_rfl) (by kernel_rfl) (by kernel_rfl) (fun _ _ _ h => h) (by rfl) (fun w hw => by first | rfl | (go_simp; done) | (go_simp; rfl) | (go_simp; omega)) hHeld ?_
              simp only [Act.put, List.setIfInBounds_toArray, List.set_cons_zero, List.set_cons_succ]
              refine takeH 5 (some 54) (.slice (some ⟨b2, o2, none⟩) n1 c1) rfl rfl (by kernel_rfl) (by kernel_rfl) (by kernel_rfl) (fun _ _ _ h => h) (by rfl) (fun w hw => by have c : w.cell? ⟨g, 1, none⟩ = some (.slice (some ⟨b2, o2, none⟩) n1 c1) := (hw.cell (World.block_lt_of_cell? _ _ cS)).trans cS; first | (go_simp; done) | (go_simp; rfl)) hHeld ?_
              simp only [Act.put, List.setIfInBounds_toArray, List.set_cons_zero, List.set_cons_succ]
              refine takeH 6 (some 55) (.int .i64 (k : Int)) rfl rfl (by kernel_rfl) (by kernel_rfl) (by kernel_rfl) (fun _ _ _ h => h) (by rfl) (fun w hw => by first | rfl | (go_simp; done) | (go_simp; rfl) | (go_simp; omega)) hHeld ?_
              simp only [Act.put, List.setIfInBounds_toArray, List.set_cons_zero, List.set_cons_succ]
              refine takeH 7 (some 56) (.pointer (some ⟨b2, o2 + k * 36, none⟩)) rfl rfl (by kernel_rfl) (by kernel_rfl) (by kernel_rfl) (fun _ _ _ h => h) (by rfl) (fun w hw => by first | rfl | (go_simp; done) | (go_simp; rfl) | (go_simp; omega)) hHeld ?_
              simp only [Act.put, List.setIfInBounds_toArray, List.set_cons_zero, List.set_cons_succ]
              refine takeH 8 (some 57) (.pointer (some ⟨b2, o2 + k * 36, none⟩)) rfl rfl (by kernel_rfl) (by kernel_rfl) (by kernel_rfl) (fun _ _ _ h => h) (by rfl) (fun w hw => by first | rfl | (go_simp; done) | (go_simp; rfl) | (go_simp; omega)) hHeld ?_
              simp only [Act.put, List.setIfInBounds_toArray, List.set_cons_zero, List.set_cons_succ]
              refine takeH 9 (some 58) (.int .i64 a.kind) rfl rfl (by kernel_rfl) (by kernel_rfl) (by kernel_rfl) (fun _ _ _ h => h) (by rfl) (fun w hw => by have c : w.cell? ⟨b2, o2 + k * 36, none⟩ = some (.int .i64 a.kind) := (hw.cell (World.block_lt_of_cell? _ _ e0)).trans e0; first | (go_simp; done) | (go_simp; rfl)) hHeld ?_
              simp only [Act.put, List.setIfInBounds_toArray, List.set_cons_zero, List.set_cons_succ]
              refine takeH 10 (some 59) (.bool false) rfl rfl (by kernel_rfl) (by kernel_rfl) (by kernel_rfl) (fun _ _ _ h => h) (by rfl) (fun w hw => by have kb : (a.kind != 1) = false := (by unfold bne; rw [ka]; rfl); first | (go_simp; done) | (go_simp; rfl) | (go_simp; simp [kb]; done)) hHeld ?_
              simp only [Act.put, List.setIfInBounds_toArray, List.set_cons_zero, List.set_cons_succ]
              refine takeH 11 (some 60) (.bool false) rfl rfl (by kernel_rfl) (by kernel_rfl) (by kernel_rfl) (fun _ _ _ h => h) (by rfl) (fun w hw => by first | rfl | (go_simp; done) | (go_simp; rfl) | (go_simp; omega)) hHeld ?_
              simp only [Act.put, List.setIfInBounds_toArray, List.set_cons_zero, List.set_cons_succ]
              refine skH 12 (some 61) rfl hHeld ?_
              simp only [Act.put, List.setIfInBounds_toArray, List.set_cons_zero, List.set_cons_succ]
              refine skH 13 (some 62) rfl hHeld ?_
              simp only [Act.put, List.setIfInBounds_toArray, List.set_cons_zero, List.set_cons_succ]
              refine skH 14 (some 63) rfl hHeld ?_
              simp only [Act.put, List.setIfInBounds_toArray, List.set_cons_zero, List.set_cons_succ]
              refine skH 15 (some 64) rfl hHeld ?_
              simp only [Act.put, List.setIfInBounds_toArray, List.set_cons_zero, List.set_cons_succ]
              refine skH 16 (some 65) rfl hHeld ?_
              simp only [Act.put, List.setIfInBounds_toArray, List.set_cons_zero, List.set_cons_succ]
              refine skH 17 (some 66) rfl hHeld ?_
              simp only [Act.put, List.setIfInBounds_toArray, List.set_cons_zero, List.set_cons_succ]
              refine skH 18 (some 67) rfl hHeld ?_
              simp only [Act.put, List.setIfInBounds_toArray, List.set_cons_zero, List.set_cons_succ]
              refine skH 19 (some 68) rfl hHeld ?_
              simp only [Act.put, List.setIfInBounds_toArray, List.set_cons_zero, List.set_cons_succ]
              refine skH 20 (some 69) rfl hHeld ?_
              simp only [Act.put, List.setIfInBounds_toArray, List.set_cons_zero, List.set_cons_succ]
              refine skH 21 (some 70) rfl hHeld ?_
              simp only [Act.put, List.setIfInBounds_toArray, List.set_cons_zero, List.set_cons_succ]
              refine skH 22 (some 71) rfl hHeld ?_
              simp only [Act.put, List.setIfInBounds_toArray, List.set_cons_zero, List.set_cons_succ]
              refine skH 23 (some 72) rfl hHeld ?_
              simp only [Act.put, List.setIfInBounds_toArray, List.set_cons_zero, List.set_cons_succ]
              refine skH 24 (some 73) rfl hHeld ?_
              simp only [Act.put, List.setIfInBounds_toArray, List.set_cons_zero, List.set_cons_succ]
              refine takeH 25 (some 74) (.bool false) rfl rfl (by kernel_rfl) (by kernel_rfl) (by kernel_rfl) (fun _ _ _ h => h) (by rfl) (fun w hw => by first | rfl | (go_simp; done) | (go_simp; rfl) | (go_simp; omega)) hHeld ?_
              simp only [Act.put, List.setIfInBounds_toArray, List.set_cons_zero, List.set_cons_succ]
              refine takeH 26 (some 8) (.bool false) rfl rfl (by kernel_rfl) (by kernel_rfl) (by kernel_rfl) (fun _ _ _ h => h) (by rfl) (fun w hw => by first | rfl | (go_simp; done) | (go_simp; rfl) | (go_simp; omega)) hHeld ?_
              simp only [Act.put, List.setIfInBounds_toArray, List.set_cons_zero, List.set_cons_succ]
              refine ⟨by kernel_rfl, ?_⟩
              refine NoPanic.normal ?_
              try go_wp2
              go_roundw
              case rel => exact ⟨_, k + 1, by omega, by go_num, rfl, fun _ => hS1.out, R7.out.below hHeld R7.out.lt, hO7.below hHeld, gb7.trans (hHeld.mono gb7.size)⟩
              case measure => simp [intOf]; omega
            | false =>
              cases ki : (a.id == s.id) with
              | false =>
                go_wp2
                refine wp_region_noPanic ?_
                refine wp_region_held_drew (S := fun wx => Below wr.heap.size wr wx) (by kernel_rfl) ((Below.refl _ _).drew) (fun hHeld => ?_)
                refine takeH 0 (some 49) (.pointer (some ⟨g, 0, none⟩)) rfl rfl (by kernel_rfl) (by kernel_rfl) (by kernel_rfl) (fun _ _ _ h => h) (by rfl) (fun w hw => by first | rfl | (go_simp; done) | (go_simp; rfl) | (go_simp; omega)) hHeld ?_
                simp only [Act.put, List.setIfInBounds_toArray, List.set_cons_zero, List.set_cons_succ]
                refine takeH 1 (some 50) (.int .i64 1) rfl rfl (by kernel_rfl) (by kernel_rfl) (by kernel_rfl) (fun _ _ _ h => h) (by rfl) (fun w hw => by first | rfl | (go_simp; done) | (go_simp; rfl) | (go_simp; omega)) hHeld ?_
                simp only [Act.put, List.setIfInBounds_toArray, List.set_cons_zero, List.set_cons_succ]
                refine takeH 2 (some 51) (.pointer (some ⟨g, 0, none⟩)) rfl rfl (by kernel_rfl) (by kernel_rfl) (by kernel_rfl) (fun _ _ _ h => h) (by rfl) (fun w hw => by first | rfl | (go_simp; done) | (go_simp; rfl) | (go_simp; omega)) hHeld ?_
                simp only [Act.put, List.setIfInBounds_toArray, List.set_cons_zero, List.set_cons_succ]
                refine takeH 3 (some 52) (.pointer (some ⟨g, 0, none⟩)) rfl rfl (by kernel_rfl) (by kernel_rfl) (by kernel_rfl) (fun _ _ _ h => h) (by rfl) (fun w hw => by first | rfl | (go_simp; done) | (go_simp; rfl) | (go_simp; omega)) hHeld ?_
                simp only [Act.put, List.setIfInBounds_toArray, List.set_cons_zero, List.set_cons_succ]
                refine takeH 4 (some 53) (.pointer (some ⟨g, 1, none⟩)) rfl rfl (by kernel_rfl) (by kernel_rfl) (by kernel_rfl) (fun _ _ _ h => h) (by rfl) (fun w hw => by first | rfl | (go_simp; done) | (go_simp; rfl) | (go_simp; omega)) hHeld ?_
                simp only [Act.put, List.setIfInBounds_toArray, List.set_cons_zero, List.set_cons_succ]
                refine takeH 5 (some 54) (.slice (some ⟨b2, o2, none⟩) n1 c1) rfl rfl (by kernel_rfl) (by kernel_rfl) (by kernel_rfl) (fun _ _ _ h => h) (by rfl) (fun w hw => by have c : w.cell? ⟨g, 1, none⟩ = some (.slice (some ⟨b2, o2, none⟩) n1 c1) := (hw.cell (World.block_lt_of_cell? _ _ cS)).trans cS; first | (go_simp; done) | (go_simp; rfl)) hHeld ?_
                simp only [Act.put, List.setIfInBounds_toArray, List.set_cons_zero, List.set_cons_succ]
                refine takeH 6 (some 55) (.int .i64 (k : Int)) rfl rfl (by kernel_rfl) (by kernel_rfl) (by kernel_rfl) (fun _ _ _ h => h) (by rfl) (fun w hw => by first | rfl | (go_simp; done) | (go_simp; rfl) | (go_simp; omega)) hHeld ?_
                simp only [Act.put, List.setIfInBounds_toArray, List.set_cons_zero, List.set_cons_succ]
                refine takeH 7 (some 56) (.pointer (some ⟨b2, o2 + k * 36, none⟩)) rfl rfl (by kernel_rfl) (by kernel_rfl) (by kernel_rfl) (fun _ _ _ h => h) (by rfl) (fun w hw => by first | rfl | (go_simp; done) | (go_simp; rfl) | (go_simp; omega)) hHeld ?_
                simp only [Act.put, List.setIfInBounds_toArray, List.set_cons_zero, List.set_cons_succ]
                refine takeH 8 (some 57) (.pointer (some ⟨b2, o2 + k * 36, none⟩)) rfl rfl (by kernel_rfl) (by kernel_rfl) (by kernel_rfl) (fun _ _ _ h => h) (by rfl) (fun w hw => by first | rfl | (go_simp; done) | (go_simp; rfl) | (go_simp; omega)) hHeld ?_
                simp only [Act.put, List.setIfInBounds_toArray, List.set_cons_zero, List.set_cons_succ]
                refine takeH 9 (some 58) (.int .i64 a.kind) rfl rfl (by kernel_rfl) (by kernel_rfl) (by kernel_rfl) (fun _ _ _ h => h) (by rfl) (fun w hw => by have c : w.cell? ⟨b2, o2 + k * 36, none⟩ = some (.int .i64 a.kind) := (hw.cell (World.block_lt_of_cell? _ _ e0)).trans e0; first | (go_simp; done) | (go_simp; rfl)) hHeld ?_
                simp only [Act.put, List.setIfInBounds_toArray, List.set_cons_zero, List.set_cons_succ]
                refine takeH 10 (some 59) (.bool true) rfl rfl (by kernel_rfl) (by kernel_rfl) (by kernel_rfl) (fun _ _ _ h => h) (by rfl) (fun w hw => by have kb : (a.kind != 1) = true := (by unfold bne; rw [ka]; rfl); first | (go_simp; done) | (go_simp; rfl) | (go_simp; simp [kb]; done)) hHeld ?_
                simp only [Act.put, List.setIfInBounds_toArray, List.set_cons_zero, List.set_cons_succ]
                refine takeH 11 (some 60) (.bool true) rfl rfl (by kernel_rfl) (by kernel_rfl) (by kernel_rfl) (fun _ _ _ h => h) (by rfl) (fun w hw => by first | rfl | (go_simp; done) | (go_simp; rfl) | (go_simp; omega)) hHeld ?_
                simp only [Act.put, List.setIfInBounds_toArray, List.set_cons_zero, List.set_cons_succ]
                refine takeH 12 (some 61) (.pointer (some ⟨g, 0, none⟩)) rfl rfl (by kernel_rfl) (by kernel_rfl) (by kernel_rfl) (fun _ _ _ h => h) (by rfl) (fun w hw => by first | rfl | (go_simp; done) | (go_simp; rfl) | (go_simp; omega)) hHeld ?_
                simp only [Act.put, List.setIfInBounds_toArray, List.set_cons_zero, List.set_cons_succ]
                refine takeH 13 (some 62) (.int .i64 1) rfl rfl (by kernel_rfl) (by kernel_rfl) (by kernel_rfl) (fun _ _ _ h => h) (by rfl) (fun w hw => by first | rfl | (go_simp; done) | (go_simp; rfl) | (go_simp; omega)) hHeld ?_
                simp only [Act.put, List.setIfInBounds_toArray, List.set_cons_zero, List.set_cons_succ]
                refine takeH 14 (some 63) (.pointer (some ⟨g, 0, none⟩)) rfl rfl (by kernel_rfl) (by kernel_rfl) (by kernel_rfl) (fun _ _ _ h => h) (by rfl) (fun w hw => by first | rfl | (go_simp; done) | (go_simp; rfl) | (go_simp; omega)) hHeld ?_
                simp only [Act.put, List.setIfInBounds_toArray, List.set_cons_zero, List.set_cons_succ]
                refine takeH 15 (some 64) (.pointer (some ⟨g, 0, none⟩)) rfl rfl (by kernel_rfl) (by kernel_rfl) (by kernel_rfl) (fun _ _ _ h => h) (by rfl) (fun w hw => by first | rfl | (go_simp; done) | (go_simp; rfl) | (go_simp; omega)) hHeld ?_
                simp only [Act.put, List.setIfInBounds_toArray, List.set_cons_zero, List.set_cons_succ]
                refine takeH 16 (some 65) (.pointer (some ⟨g, 1, none⟩)) rfl rfl (by kernel_rfl) (by kernel_rfl) (by kernel_rfl) (fun _ _ _ h => h) (by rfl) (fun w hw => by first | rfl | (go_simp; done) | (go_simp; rfl) | (go_simp; omega)) hHeld ?_
                simp only [Act.put, List.setIfInBounds_toArray, List.set_cons_zero, List.set_cons_succ]
                refine takeH 17 (some 66) (.slice (some ⟨b2, o2, none⟩) n1 c1) rfl rfl (by kernel_rfl) (by kernel_rfl) (by kernel_rfl) (fun _ _ _ h => h) (by rfl) (fun w hw => by have c : w.cell? ⟨g, 1, none⟩ = some (.slice (some ⟨b2, o2, none⟩) n1 c1) := (hw.cell (World.block_lt_of_cell? _ _ cS)).trans cS; first | (go_simp; done) | (go_simp; rfl)) hHeld ?_
                simp only [Act.put, List.setIfInBounds_toArray, List.set_cons_zero, List.set_cons_succ]
                refine takeH 18 (some 67) (.int .i64 (k : Int)) rfl rfl (by kernel_rfl) (by kernel_rfl) (by kernel_rfl) (fun _ _ _ h => h) (by rfl) (fun w hw => by first | rfl | (go_simp; done) | (go_simp; rfl) | (go_simp; omega)) hHeld ?_
                simp only [Act.put, List.setIfInBounds_toArray, List.set_cons_zero, List.set_cons_succ]
                refine takeH 19 (some 68) (.pointer (some ⟨b2, o2 + k * 36, none⟩)) rfl rfl (by kernel_rfl) (by kernel_rfl) (by kernel_rfl) (fun _ _ _ h => h) (by rfl) (fun w hw => by first | rfl | (go_simp; done) | (go_simp; rfl) | (go_simp; omega)) hHeld ?_
                simp only [Act.put, List.setIfInBounds_toArray, List.set_cons_zero, List.set_cons_succ]
                refine takeH 20 (some 69) (.pointer (some ⟨b2, o2 + k * 36 + 1, none⟩)) rfl rfl (by kernel_rfl) (by kernel_rfl) (by kernel_rfl) (fun _ _ _ h => h) (by rfl) (fun w hw => by first | rfl | (go_simp; done) | (go_simp; rfl) | (go_simp; omega)) hHeld ?_
                simp only [Act.put, List.setIfInBounds_toArray, List.set_cons_zero, List.set_cons_succ]
                refine takeH 21 (some 70) (.int .i64 a.id) rfl rfl (by kernel_rfl) (by kernel_rfl) (by kernel_rfl) (fun _ _ _ h => h) (by rfl) (fun w hw => by have c : w.cell? ⟨b2, o2 + k * 36 + 1, none⟩ = some (.int .i64 a.id) := (hw.cell (World.block_lt_of_cell? _ _ e1)).trans e1; first | (go_simp; done) | (go_simp; rfl)) hHeld ?_
                simp only [Act.put, List.setIfInBounds_toArray, List.set_cons_zero, List.set_cons_succ]
                refine takeH 22 (some 71) (.pointer (some ⟨gU, 1, none⟩)) rfl rfl (by kernel_rfl) (by kernel_rfl) (by kernel_rfl) (fun _ _ _ h => h) (by rfl) (fun w hw => by first | rfl | (go_simp; done) | (go_simp; rfl) | (go_simp; omega)) hHeld ?_
                simp only [Act.put, List.setIfInBounds_toArray, List.set_cons_zero, List.set_cons_succ]
                refine takeH 23 (some 72) (.int .i64 s.id) rfl rfl (by kernel_rfl) (by kernel_rfl) (by kernel_rfl) (fun _ _ _ h => h) (by rfl) (fun w hw => by have c : w.cell? ⟨gU, 1, none⟩ = some (.int .i64 s.id) := (hw.cell (World.block_lt_of_cell? _ _ d1)).trans d1; first | (go_simp; done) | (go_simp; rfl)) hHeld ?_
                simp only [Act.put, List.setIfInBounds_toArray, List.set_cons_zero, List.set_cons_succ]
                refine takeH 24 (some 73) (.bool false) rfl rfl (by kernel_rfl) (by kernel_rfl) (by kernel_rfl) (fun _ _ _ h => h) (by rfl) (fun w hw => by first | rfl | (go_simp; done) | (go_simp; rfl) | (go_simp; omega)) hHeld ?_
                simp only [Act.put, List.setIfInBounds_toArray, List.set_cons_zero, List.set_cons_succ]
                refine takeH 25 (some 74) (.bool false) rfl rfl (by kernel_rfl) (by kernel_rfl) (by kernel_rfl) (fun _ _ _ h => h) (by rfl) (fun w hw => by first | rfl | (go_simp; done) | (go_simp; rfl) | (go_simp; omega)) hHeld ?_
                simp only [Act.put, List.setIfInBounds_toArray, List.set_cons_zero, List.set_cons_succ]
                refine takeH 26 (some 8) (.bool false) rfl rfl (by kernel_rfl) (by kernel_rfl) (by kernel_rfl) (fun _ _ _ h => h) (by rfl) (fun w hw => by first | rfl | (go_simp; done) | (go_simp; rfl) | (go_simp; omega)) hHeld ?_
                simp only [Act.put, List.setIfInBounds_toArray, List.set_cons_zero, List.set_cons_succ]
                refine ⟨by kernel_rfl, ?_⟩
                refine NoPanic.normal ?_
                try go_wp2
                go_roundw
                case rel => exact ⟨_, k + 1, by omega, by go_num, rfl, fun _ => hS1.out, R7.out.below hHeld R7.out.lt, hO7.below hHeld, gb7.trans (hHeld.mono gb7.size)⟩
                case measure => simp [intOf]; omega
              | true =>
                go_wp2
                refine wp_region_noPanic ?_
                refine wp_region_held_drew (S := fun wx => Below wr.heap.size wr wx) (by kernel_rfl) ((Below.refl _ _).drew) (fun hHeld => ?_)
                refine takeH 0 (some 49) (.pointer (some ⟨g, 0, none⟩)) rfl rfl (by kernel_rfl) (by kernel_rfl) (by kernel_rfl) (fun _ _ _ h => h) (by rfl) (fun w hw => by first | rfl | (go_simp; done) | (go_simp; rfl) | (go_simp; omega)) hHeld ?_
                simp only [Act.put, List.setIfInBounds_toArray, List.set_cons_zero, List.set_cons_succ]
                refine takeH 1 (some 50) (.int .i64 1) rfl rfl (by kernel_rfl) (by kernel_rfl) (by kernel_rfl) (fun _ _ _ h => h) (by rfl) (fun w hw => by first | rfl | (go_simp; done) | (go_simp; rfl) | (go_simp; omega)) hHeld ?_
                simp only [Act.put, List.setIfInBounds_toArray, List.set_cons_zero, List.set_cons_succ]
                refine takeH 2 (some 51) (.pointer (some ⟨g, 0, none⟩)) rfl rfl (by kernel_rfl) (by kernel_rfl) (by kernel_rfl) (fun _ _ _ h => h) (by rfl) (fun w hw => by first | rfl | (go_simp; done) | (go_simp; rfl) | (go_simp; omega)) hHeld ?_
                simp only [Act.put, List.setIfInBounds_toArray, List.set_cons_zero, List.set_cons_succ]
                refine takeH 3 (some 52) (.pointer (some ⟨g, 0, none⟩)) rfl rfl (by kernel_rfl) (by kernel_rfl) (by kernel_rfl) (fun _ _ _ h => h) (by rfl) (fun w hw => by first | rfl | (go_simp; done) | (go_simp; rfl) | (go_simp; omega)) hHeld ?_
                simp only [Act.put, List.setIfInBounds_toArray, List.set_cons_zero, List.set_cons_succ]
                refine takeH 4 (some 53) (.pointer (some ⟨g, 1, none⟩)) rfl rfl (by kernel_rfl) (by kernel_rfl) (by kernel_rfl) (fun _ _ _ h => h) (by rfl) (fun w hw => by first | rfl | (go_simp; done) | (go_simp; rfl) | (go_simp; omega)) hHeld ?_
                simp only [Act.put, List.setIfInBounds_toArray, List.set_cons_zero, List.set_cons_succ]
                refine takeH 5 (some 54) (.slice (some ⟨b2, o2, none⟩) n1 c1) rfl rfl (by kernel_rfl) (by kernel_rfl) (by kernel_rfl) (fun _ _ _ h => h) (by rfl) (fun w hw => by have c : w.cell? ⟨g, 1, none⟩ = some (.slice (some ⟨b2, o2, none⟩) n1 c1) := (hw.cell (World.block_lt_of_cell? _ _ cS)).trans cS; first | (go_simp; done) | (go_simp; rfl)) hHeld ?_
                simp only [Act.put, List.setIfInBounds_toArray, List.set_cons_zero, List.set_cons_succ]
                refine takeH 6 (some 55) (.int .i64 (k : Int)) rfl rfl (by kernel_rfl) (by kernel_rfl) (by kernel_rfl) (fun _ _ _ h => h) (by rfl) (fun w hw => by first | rfl | (go_simp; done) | (go_simp; rfl) | (go_simp; omega)) hHeld ?_
                simp only [Act.put, List.setIfInBounds_toArray, List.set_cons_zero, List.set_cons_succ]
                refine takeH 7 (some 56) (.pointer (some ⟨b2, o2 + k * 36, none⟩)) rfl rfl (by kernel_rfl) (by kernel_rfl) (by kernel_rfl) (fun _ _ _ h => h) (by rfl) (fun w hw => by first | rfl | (go_simp; done) | (go_simp; rfl) | (go_simp; omega)) hHeld ?_
                simp only [Act.put, List.setIfInBounds_toArray, List.set_cons_zero, List.set_cons_succ]
                refine takeH 8 (some 57) (.pointer (some ⟨b2, o2 + k * 36, none⟩)) rfl rfl (by kernel_rfl) (by kernel_rfl) (by kernel_rfl) (fun _ _ _ h => h) (by rfl) (fun w hw => by first | rfl | (go_simp; done) | (go_simp; rfl) | (go_simp; omega)) hHeld ?_
                simp only [Act.put, List.setIfInBounds_toArray, List.set_cons_zero, List.set_cons_succ]
                refine takeH 9 (some 58) (.int .i64 a.kind) rfl rfl (by kernel_rfl) (by kernel_rfl) (by kernel_rfl) (fun _ _ _ h => h) (by rfl) (fun w hw => by have c : w.cell? ⟨b2, o2 + k * 36, none⟩ = some (.int .i64 a.kind) := (hw.cell (World.block_lt_of_cell? _ _ e0)).trans e0; first | (go_simp; done) | (go_simp; rfl)) hHeld ?_
                simp only [Act.put, List.setIfInBounds_toArray, List.set_cons_zero, List.set_cons_succ]
                refine takeH 10 (some 59) (.bool true) rfl rfl (by kernel_rfl) (by kernel_rfl) (by kernel_rfl) (fun _ _ _ h => h) (by rfl) (fun w hw => by have kb : (a.kind != 1) = true := (by unfold bne; rw [ka]; rfl); first | (go_simp; done) | (go_simp; rfl) | (go_simp; simp [kb]; done)) hHeld ?_
                simp only [Act.put, List.setIfInBounds_toArray, List.set_cons_zero, List.set_cons_succ]
                refine takeH 11 (some 60) (.bool true) rfl rfl (by kernel_rfl) (by kernel_rfl) (by kernel_rfl) (fun _ _ _ h => h) (by rfl) (fun w hw => by first | rfl | (go_simp; done) | (go_simp; rfl) | (go_simp; omega)) hHeld ?_
                simp only [Act.put, List.setIfInBounds_toArray, List.set_cons_zero, List.set_cons_succ]
                refine takeH 12 (some 61) (.pointer (some ⟨g, 0, none⟩)) rfl rfl (by kernel_rfl) (by kernel_rfl) (by kernel_rfl) (fun _ _ _ h => h) (by rfl) (fun w hw => by first | rfl | (go_simp; done) | (go_simp; rfl) | (go_simp; omega)) hHeld ?_
                simp only [Act.put, List.setIfInBounds_toArray, List.set_cons_zero, List.set_cons_succ]
                refine takeH 13 (some 62) (.int .i64 1) rfl rfl (by kernel_rfl) (by kernel_rfl) (by kernel_rfl) (fun _ _ _ h => h) (by rfl) (fun w hw => by first | rfl | (go_simp; done) | (go_simp; rfl) | (go_simp; omega)) hHeld ?_
                simp only [Act.put, List.setIfInBounds_toArray, List.set_cons_zero, List.set_cons_succ]
                refine takeH 14 (some 63) (.pointer (some ⟨g, 0, none⟩)) rfl rfl (by kernel_rfl) (by kernel_rfl) (by kernel_rfl) (fun _ _ _ h => h) (by rfl) (fun w hw => by first | rfl | (go_simp; done) | (go_simp; rfl) | (go_simp; omega)) hHeld ?_
                simp only [Act.put, List.setIfInBounds_toArray, List.set_cons_zero, List.set_cons_succ]
                refine takeH 15 (some 64) (.pointer (some ⟨g, 0, none⟩)) rfl rfl (by kernel_rfl) (by kernel_rfl) (by kernel_rfl) (fun _ _ _ h => h) (by rfl) (fun w hw => by first | rfl | (go_simp; done) | (go_simp; rfl) | (go_simp; omega)) hHeld ?_
                simp only [Act.put, List.setIfInBounds_toArray, List.set_cons_zero, List.set_cons_succ]
                refine takeH 16 (some 65) (.pointer (some ⟨g, 1, none⟩)) rfl rfl (by kernel_rfl) (by kernel_rfl) (by kernel_rfl) (fun _ _ _ h => h) (by rfl) (fun w hw => by first | rfl | (go_simp; done) | (go_simp; rfl) | (go_simp; omega)) hHeld ?_
                simp only [Act.put, List.setIfInBounds_toArray, List.set_cons_zero, List.set_cons_succ]
                refine takeH 17 (some 66) (.slice (some ⟨b2, o2, none⟩) n1 c1) rfl rfl (by kernel_rfl) (by kernel_rfl) (by kernel_rfl) (fun _ _ _ h => h) (by rfl) (fun w hw => by have c : w.cell? ⟨g, 1, none⟩ = some (.slice (some ⟨b2, o2, none⟩) n1 c1) := (hw.cell (World.block_lt_of_cell? _ _ cS)).trans cS; first | (go_simp; done) | (go_simp; rfl)) hHeld ?_
                simp only [Act.put, List.setIfInBounds_toArray, List.set_cons_zero, List.set_cons_succ]
                refine takeH 18 (some 67) (.int .i64 (k : Int)) rfl rfl (by kernel_rfl) (by kernel_rfl) (by kernel_rfl) (fun _ _ _ h => h) (by rfl) (fun w hw => by first | rfl | (go_simp; done) | (go_simp; rfl) | (go_simp; omega)) hHeld ?_
                simp only [Act.put, List.setIfInBounds_toArray, List.set_cons_zero, List.set_cons_succ]
                refine takeH 19 (some 68) (.pointer (some ⟨b2, o2 + k * 36, none⟩)) rfl rfl (by kernel_rfl) (by kernel_rfl) (by kernel_rfl) (fun _ _ _ h => h) (by rfl) (fun w hw => by first | rfl | (go_simp; done) | (go_simp; rfl) | (go_simp; omega)) hHeld ?_
                simp only [Act.put, List.setIfInBounds_toArray, List.set_cons_zero, List.set_cons_succ]
                refine takeH 20 (some 69) (.pointer (some ⟨b2, o2 + k * 36 + 1, none⟩)) rfl rfl (by kernel_rfl) (by kernel_rfl) (by kernel_rfl) (fun _ _ _ h => h) (by rfl) (fun w hw => by first | rfl | (go_simp; done) | (go_simp; rfl) | (go_simp; omega)) hHeld ?_
                simp only [Act.put, List.setIfInBounds_toArray, List.set_cons_zero, List.set_cons_succ]
                refine takeH 21 (some 70) (.int .i64 a.id) rfl rfl (by kernel_rfl) (by kernel_rfl) (by kernel_rfl) (fun _ _ _ h => h) (by rfl) (fun w hw => by have c : w.cell? ⟨b2, o2 + k * 36 + 1, none⟩ = some (.int .i64 a.id) := (hw.cell (World.block_lt_of_cell? _ _ e1)).trans e1; first | (go_simp; done) | (go_simp; rfl)) hHeld ?_
                simp only [Act.put, List.setIfInBounds_toArray, List.set_cons_zero, List.set_cons_succ]
                refine takeH 22 (some 71) (.pointer (some ⟨gU, 1, none⟩)) rfl rfl (by kernel_rfl) (by kernel_rfl) (by kernel_rfl) (fun _ _ _ h => h) (by rfl) (fun w hw => by first | rfl | (go_simp; done) | (go_simp; rfl) | (go_simp; omega)) hHeld ?_
                simp only [Act.put, List.setIfInBounds_toArray, List.set_cons_zero, List.set_cons_succ]
                refine takeH 23 (some 72) (.int .i64 s.id) rfl rfl (by kernel_rfl) (by kernel_rfl) (by kernel_rfl) (fun _ _ _ h => h) (by rfl) (fun w hw => by have c : w.cell? ⟨gU, 1, none⟩ = some (.int .i64 s.id) := (hw.cell (World.block_lt_of_cell? _ _ d1)).trans d1; first | (go_simp; done) | (go_simp; rfl)) hHeld ?_
                simp only [Act.put, List.setIfInBounds_toArray, List.set_cons_zero, List.set_cons_succ]
                refine takeH 24 (some 73) (.bool true) rfl rfl (by kernel_rfl) (by kernel_rfl) (by kernel_rfl) (fun _ _ _ h => h) (by rfl) (fun w hw => by first | rfl | (go_simp; done) | (go_simp; rfl) | (go_simp; omega)) hHeld ?_
                simp only [Act.put, List.setIfInBounds_toArray, List.set_cons_zero, List.set_cons_succ]
                refine takeH 25 (some 74) (.bool true) rfl rfl (by kernel_rfl) (by kernel_rfl) (by kernel_rfl) (fun _ _ _ h => h) (by rfl) (fun w hw => by first | rfl | (go_simp; done) | (go_simp; rfl) | (go_simp; omega)) hHeld ?_
                simp only [Act.put, List.setIfInBounds_toArray, List.set_cons_zero, List.set_cons_succ]
                refine takeH 26 (some 8) (.bool true) rfl rfl (by kernel_rfl) (by kernel_rfl) (by kernel_rfl) (fun _ _ _ h => h) (by rfl) (fun w hw => by first | rfl | (go_simp; done) | (go_simp; rfl) | (go_simp; omega)) hHeld ?_
                simp only [Act.put, List.setIfInBounds_toArray, List.set_cons_zero, List.set_cons_succ]
                refine ⟨by kernel_rfl, ?_⟩
                refine NoPanic.normal ?_
                try go_wp2
                go_roundw
                case rel => exact ⟨_, k + 1, by omega, by go_num, rfl, fun _ => hS1.out, R7.out.below hHeld R7.out.lt, hO7.below hHeld, gb7.trans (hHeld.mono gb7.size)⟩
                case measure => simp [intOf]; omega
        · have hdk : decide ((k : Int) < (n1 : Int)) = false := decide_eq_false (by omega)
          have hdk2 : decide (k < n1) = false := decide_eq_false hlk
          cases tb with
          | true =>
            go_wp2
            go_roundw
            case rel => exact ⟨i + 1, ids, v, by omega, by go_num, rfl, hO7, ⟨by have := hIds.out.1; omega, hIds.out.2⟩, gb7⟩
            case measure => simp [intOf]; omega
          | false =>
            have hS1 : Hid (s.kind = 1) := hT.out rfl
            obtain ⟨v', wa, wb, E1, E2, hOb, hkp, hbb⟩ := hO7.app s.id (by have := hIds.out.1; have := HZ.out; omega) gb7.size
            have E1h := hide E1
            have E2h := hide E2
            clear E1 E2
            go_wp2_with (first | refine wpList_slice1 rfl 59 _ rfl (.int .i64 s.id) rfl E1h.out ?_ | refine wpList_app rfl _ _ _ rfl E2h.out ?_)
            go_roundw
            case rel => exact ⟨i + 1, ids ++ [s.id], v', by omega, by go_num, rfl, hOb, ⟨by rw [List.length_append]; have := hIds.out.1; simp; omega, fun z hz => by
              rcases List.mem_append.1 hz with hz | hz
              · exact hIds.out.2 z hz
              · rw [List.mem_singleton] at hz; subst hz; exact ⟨i, s, hlt, HS.out, hS1.out, rfl⟩⟩, gb7.trans hbb⟩
            case measure => simp [intOf]; omega
    · have hif : i = f0 := by omega
      subst hif
      have hd : decide ((i : Int) < (i : Int)) = false := decide_eq_false (by omega)
      have hd2 : decide (i < i) = false := decide_eq_false (by omega)
      go_wp2
      go_ret
      exact ⟨_, rfl, ⟨ids, hO, hIds.out.1, hIds.out.2⟩, gb⟩
end Go.Proofs.Ytbeoojnofblnjaa
