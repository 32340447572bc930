/-
  RecordKeeps: grows (printed by gen_r16.py).
-/
import Derived.Test.YtlohfoggcdaeiaaGreatRKeep1
import Derived.Test.YtlohfoggcdaeiaaGreatRApp3
namespace Go.Proofs.YtlohfoggcdaeiaaGreat
open Go.RowKit S
set_option linter.unusedVariables false
set_option linter.unusedSimpArgs false
open Cu (nb be hl ofL CW Mw CR Mr RS takeS takeA hOf nil8 doneS)
theorem Upds.front {w : World} {ad : Option Addr} {l : List Upd} (h : Upds w ad l) (k : Nat) : Upds w ad (l.take k) := by
  rcases h with rfl | ⟨b, o, h1, h2, h3⟩
  · left; simp
  · refine .inr ⟨b, o, h1, h2, fun i s hs => h3 i s ?_⟩
    rw [List.getElem?_take] at hs
    split at hs
    · exact hs
    · cases hs
set_option maxRecDepth 100000 in
set_option maxHeartbeats 40000000 in
theorem grows_yes (s t : St) (lo lo2 lp lp2 : List Upd) (k : Nat) (hk : s.ap = (k : Int)) (hno : lo.length = s.ours.n) (hno' : lo2.length = t.ours.n) (hnp : lp.length = s.peers.n) (hnp' : lp2.length = t.peers.n) (e1 : lo2.take lo.length = lo) (e2 : lp2.take k = lp.take k) (hkp : k ≤ s.peers.n) (hkp' : k ≤ t.peers.n) (hap : (k : Int) ≤ t.ap) (hf : s.fail = 0 ∨ t.fail = s.fail) (zo : t.ours.n ≤ 140737488351232) (zp : t.peers.n ≤ 140737488351232) (q1 : s.ours.n ≤ t.ours.c) (q2 : k ≤ t.peers.c) (q3 : k ≤ s.peers.c) (hle : s.ours.n ≤ t.ours.n) (w : World) (hSO : Upds w s.ours.ad lo) (hSP : Upds w s.peers.ad lp) (hTO : Upds w t.ours.ad lo2) (hTP : Upds w t.peers.ad lp2) : Calls Tryz.prog 18 #[.agg (tabv s.v 115), .agg (tabv t.v 115)] w fun e w' => e = .returned (.bool true) ∧ Below w.heap.size w w' := by
  obtain ⟨w2, hW⟩ : ∃ w2, (w.alloc (.cells (tabv s.v 115) 31)).alloc (.cells (tabv t.v 115) 31) = w2 := ⟨_, rfl⟩
  have r1 : Has w2 w.heap.size 31 s.v 115 := by rw [← hW]; exact (Has.new w 31 s.v 115 _ rfl).old _
  have r2 : Has w2 (w.heap.size + 1) 31 t.v 115 := by
    rw [← hW]
    have := Has.new (w.alloc (.cells (tabv s.v 115) 31)) 31 t.v 115 _ rfl
    rw [size_alloc] at this
    exact this
  have gb : Below w.heap.size w w2 := by rw [← hW]; exact ((Below.refl w.heap.size w).alloc (Nat.le_refl _) _).alloc (by simp) _
  have c10 : w2.cell? ⟨w.heap.size, 10, none⟩ = some (.int .i64 (k : Int)) := by rw [r1.cell 10 (by omega), ← hk]; rfl
  have R1 := hide r1
  have R2 := hide r2
  have S1 := hide (fun (wx : World) (hb : Below w.heap.size w wx) => sameL_any t.ours.ad s.ours.ad s.ours.n t.ours.c s.ours.c lo hno (by omega) wx (by have := (hTO.below hb).front lo.length; rw [e1] at this; exact this) (hSO.below hb))
  have S2 := hide (fun (wx : World) (hb : Below w.heap.size w wx) => sameL_any t.peers.ad s.peers.ad k t.peers.c s.peers.c (lp.take k) (by rw [List.length_take]; omega) (by omega) wx (by have := (hTP.below hb).front k; rw [e2] at this; exact this) ((hSP.below hb).front k))
  have K1 := hide (fun w => sliceK w t.ours.ad t.ours.n t.ours.c s.ours.n q1)
  have K2 := hide (fun w => sliceK w t.peers.ad t.peers.n t.peers.c k q2)
  have K3 := hide (fun w => sliceK w s.peers.ad s.peers.n s.peers.c k q3)
  have d1 : decide ((s.ours.n : Int) ≤ (t.ours.n : Int)) = true := decide_eq_true (by omega)
  have d1' : decide (s.ours.n ≤ t.ours.n) = true := decide_eq_true (by omega)
  have d2 : decide ((k : Int) ≤ t.ap) = true := decide_eq_true hap
  have d3 : decide ((k : Int) ≤ (t.peers.n : Int)) = true := decide_eq_true (by omega)
  have d3' : decide (k ≤ t.peers.n) = true := decide_eq_true (by omega)
  have HK := hide hk
  clear hk e1 e2 hno hnp hno' hnp' hSO hSP hTO hTP zo zp q1 q2 q3 hkp hkp' hap r1 r2
  cases f1 : (s.fail == 0) with
  | true =>
    clear hf
    go_enter Tryz.func18, Tryz.ntmps18
    go_wp2
    refine wp_region_noPanic ?_
    refine wp_region_held_drew (S := fun wx => Below w2.heap.size w2 wx) (by kernel_rfl) ((Below.refl _ _).drew) (fun hHeld => ?_)
    generalize hwd : World.drew w2 = wd at hHeld ⊢
    clear hwd
    refine Cu.takeH 0 (some 9) (.pointer (some ⟨(w.heap.size + 1), 4, none⟩)) rfl rfl (by kernel_rfl) (by kernel_rfl) (by kernel_rfl) (fun _ _ _ h => h) (by rfl) (fun w_ hw => by first | rfl | (go_simp; done) | (go_simp; rfl) | (go_simp; omega)) hHeld ?_
    simp only [Act.put, List.setIfInBounds_toArray, List.set_cons_zero, List.set_cons_succ]
    refine Cu.takeH 1 (some 10) (.slice t.ours.ad t.ours.n t.ours.c) rfl rfl (by kernel_rfl) (by kernel_rfl) (by kernel_rfl) (fun _ _ _ h => h) (by rfl) (fun w_ hw => by have c : World.cell? _ ⟨(w.heap.size + 1), 4, none⟩ = some (.slice t.ours.ad t.ours.n t.ours.c) := (R2.out.below hw R2.out.lt).cell 4 (by omega); first | rfl | (go_simp; done) | (go_simp; rfl) | (go_simp; omega)) hHeld ?_
    simp only [Act.put, List.setIfInBounds_toArray, List.set_cons_zero, List.set_cons_succ]
    refine Cu.takeH 2 (some 11) (.int .i64 (t.ours.n : Int)) rfl rfl (by kernel_rfl) (by kernel_rfl) (by kernel_rfl) (fun _ _ _ h => h) (by rfl) (fun w_ hw => by first | rfl | (go_simp; done) | (go_simp; rfl) | (go_simp; omega)) hHeld ?_
    simp only [Act.put, List.setIfInBounds_toArray, List.set_cons_zero, List.set_cons_succ]
    refine Cu.takeH 3 (some 12) (.pointer (some ⟨w.heap.size, 4, none⟩)) rfl rfl (by kernel_rfl) (by kernel_rfl) (by kernel_rfl) (fun _ _ _ h => h) (by rfl) (fun w_ hw => by first | rfl | (go_simp; done) | (go_simp; rfl) | (go_simp; omega)) hHeld ?_
    simp only [Act.put, List.setIfInBounds_toArray, List.set_cons_zero, List.set_cons_succ]
    refine Cu.takeH 4 (some 13) (.slice s.ours.ad s.ours.n s.ours.c) rfl rfl (by kernel_rfl) (by kernel_rfl) (by kernel_rfl) (fun _ _ _ h => h) (by rfl) (fun w_ hw => by have c : World.cell? _ ⟨w.heap.size, 4, none⟩ = some (.slice s.ours.ad s.ours.n s.ours.c) := (R1.out.below hw R1.out.lt).cell 4 (by omega); first | rfl | (go_simp; done) | (go_simp; rfl) | (go_simp; omega)) hHeld ?_
    simp only [Act.put, List.setIfInBounds_toArray, List.set_cons_zero, List.set_cons_succ]
    refine Cu.takeH 5 (some 14) (.int .i64 (s.ours.n : Int)) rfl rfl (by kernel_rfl) (by kernel_rfl) (by kernel_rfl) (fun _ _ _ h => h) (by rfl) (fun w_ hw => by first | rfl | (go_simp; done) | (go_simp; rfl) | (go_simp; omega)) hHeld ?_
    simp only [Act.put, List.setIfInBounds_toArray, List.set_cons_zero, List.set_cons_succ]
    refine Cu.takeH 6 (some 15) (.bool true) rfl rfl (by kernel_rfl) (by kernel_rfl) (by kernel_rfl) (fun _ _ _ h => h) (by rfl) (fun w_ hw => by first | rfl | (go_simp; done) | (go_simp; rfl) | (go_simp; omega)) hHeld ?_
    simp only [Act.put, List.setIfInBounds_toArray, List.set_cons_zero, List.set_cons_succ]
    refine Cu.takeH 7 (some 16) (.bool true) rfl rfl (by kernel_rfl) (by kernel_rfl) (by kernel_rfl) (fun _ _ _ h => h) (by rfl) (fun w_ hw => by first | rfl | (go_simp; done) | (go_simp; rfl) | (go_simp; omega)) hHeld ?_
    simp only [Act.put, List.setIfInBounds_toArray, List.set_cons_zero, List.set_cons_succ]
    refine Cu.takeH 8 (some 17) (.pointer (some ⟨(w.heap.size + 1), 4, none⟩)) rfl rfl (by kernel_rfl) (by kernel_rfl) (by kernel_rfl) (fun _ _ _ h => h) (by rfl) (fun w_ hw => by first | rfl | (go_simp; done) | (go_simp; rfl) | (go_simp; omega)) hHeld ?_
    simp only [Act.put, List.setIfInBounds_toArray, List.set_cons_zero, List.set_cons_succ]
    refine Cu.takeH 9 (some 18) (.slice t.ours.ad t.ours.n t.ours.c) rfl rfl (by kernel_rfl) (by kernel_rfl) (by kernel_rfl) (fun _ _ _ h => h) (by rfl) (fun w_ hw => by have c : World.cell? _ ⟨(w.heap.size + 1), 4, none⟩ = some (.slice t.ours.ad t.ours.n t.ours.c) := (R2.out.below hw R2.out.lt).cell 4 (by omega); first | rfl | (go_simp; done) | (go_simp; rfl) | (go_simp; omega)) hHeld ?_
    simp only [Act.put, List.setIfInBounds_toArray, List.set_cons_zero, List.set_cons_succ]
    refine Cu.takeH 10 (some 19) (.pointer (some ⟨w.heap.size, 4, none⟩)) rfl rfl (by kernel_rfl) (by kernel_rfl) (by kernel_rfl) (fun _ _ _ h => h) (by rfl) (fun w_ hw => by first | rfl | (go_simp; done) | (go_simp; rfl) | (go_simp; omega)) hHeld ?_
    simp only [Act.put, List.setIfInBounds_toArray, List.set_cons_zero, List.set_cons_succ]
    refine Cu.takeH 11 (some 20) (.slice s.ours.ad s.ours.n s.ours.c) rfl rfl (by kernel_rfl) (by kernel_rfl) (by kernel_rfl) (fun _ _ _ h => h) (by rfl) (fun w_ hw => by have c : World.cell? _ ⟨w.heap.size, 4, none⟩ = some (.slice s.ours.ad s.ours.n s.ours.c) := (R1.out.below hw R1.out.lt).cell 4 (by omega); first | rfl | (go_simp; done) | (go_simp; rfl) | (go_simp; omega)) hHeld ?_
    simp only [Act.put, List.setIfInBounds_toArray, List.set_cons_zero, List.set_cons_succ]
    refine Cu.takeH 12 (some 21) (.int .i64 (s.ours.n : Int)) rfl rfl (by kernel_rfl) (by kernel_rfl) (by kernel_rfl) (fun _ _ _ h => h) (by rfl) (fun w_ hw => by first | rfl | (go_simp; done) | (go_simp; rfl) | (go_simp; omega)) hHeld ?_
    simp only [Act.put, List.setIfInBounds_toArray, List.set_cons_zero, List.set_cons_succ]
    refine Cu.takeH 13 (some 22) (.slice t.ours.ad s.ours.n t.ours.c) rfl rfl (by kernel_rfl) (by kernel_rfl) (by kernel_rfl) (fun _ _ _ h => h) (by rfl) (fun w_ hw => by have c := K1.out w_; first | rfl | (go_simp; done) | (go_simp; rfl) | (go_simp; omega)) hHeld ?_
    simp only [Act.put, List.setIfInBounds_toArray, List.set_cons_zero, List.set_cons_succ]
    refine Cu.takeH 14 (some 23) (.pointer (some ⟨w.heap.size, 4, none⟩)) rfl rfl (by kernel_rfl) (by kernel_rfl) (by kernel_rfl) (fun _ _ _ h => h) (by rfl) (fun w_ hw => by first | rfl | (go_simp; done) | (go_simp; rfl) | (go_simp; omega)) hHeld ?_
    simp only [Act.put, List.setIfInBounds_toArray, List.set_cons_zero, List.set_cons_succ]
    refine Cu.takeH 15 (some 24) (.slice s.ours.ad s.ours.n s.ours.c) rfl rfl (by kernel_rfl) (by kernel_rfl) (by kernel_rfl) (fun _ _ _ h => h) (by rfl) (fun w_ hw => by have c : World.cell? _ ⟨w.heap.size, 4, none⟩ = some (.slice s.ours.ad s.ours.n s.ours.c) := (R1.out.below hw R1.out.lt).cell 4 (by omega); first | rfl | (go_simp; done) | (go_simp; rfl) | (go_simp; omega)) hHeld ?_
    simp only [Act.put, List.setIfInBounds_toArray, List.set_cons_zero, List.set_cons_succ]
    refine wpAnyH_ready (rs := [16]) (by kernel_rfl) (by simp) (AllReadyH.cons rfl (fun K hK => ?_) AllReadyH.nil)
    rw [if_pos (by rfl)]
    go_simp
    refine (S1.out _ (gb.trans (hHeld.mono gb.size))).mono ?_
    rintro e wf ⟨rfl, hbq⟩
    try go_wp2_with fail
    refine hK.out _ _ (hHeld.trans (hbq.mono hHeld.size)) (fun hH => ?_)
    clear hK K hHeld
    have hHeld := hH
    clear hH
    refine Cu.takeH 17 (some 26) (.bool true) rfl rfl (by kernel_rfl) (by kernel_rfl) (by kernel_rfl) (fun _ _ _ h => h) (by rfl) (fun w_ hw => by first | rfl | (go_simp; done) | (go_simp; rfl) | (go_simp; omega)) hHeld ?_
    simp only [Act.put, List.setIfInBounds_toArray, List.set_cons_zero, List.set_cons_succ]
    refine Cu.takeH 18 (some 27) (.bool true) rfl rfl (by kernel_rfl) (by kernel_rfl) (by kernel_rfl) (fun _ _ _ h => h) (by rfl) (fun w_ hw => by first | rfl | (go_simp; done) | (go_simp; rfl) | (go_simp; omega)) hHeld ?_
    simp only [Act.put, List.setIfInBounds_toArray, List.set_cons_zero, List.set_cons_succ]
    refine Cu.takeH 19 (some 28) (.pointer (some ⟨(w.heap.size + 1), 9, none⟩)) rfl rfl (by kernel_rfl) (by kernel_rfl) (by kernel_rfl) (fun _ _ _ h => h) (by rfl) (fun w_ hw => by first | rfl | (go_simp; done) | (go_simp; rfl) | (go_simp; omega)) hHeld ?_
    simp only [Act.put, List.setIfInBounds_toArray, List.set_cons_zero, List.set_cons_succ]
    refine Cu.takeH 20 (some 29) (.pointer (some ⟨(w.heap.size + 1), 10, none⟩)) rfl rfl (by kernel_rfl) (by kernel_rfl) (by kernel_rfl) (fun _ _ _ h => h) (by rfl) (fun w_ hw => by first | rfl | (go_simp; done) | (go_simp; rfl) | (go_simp; omega)) hHeld ?_
    simp only [Act.put, List.setIfInBounds_toArray, List.set_cons_zero, List.set_cons_succ]
    refine Cu.takeH 21 (some 30) (.int .i64 t.ap) rfl rfl (by kernel_rfl) (by kernel_rfl) (by kernel_rfl) (fun _ _ _ h => h) (by rfl) (fun w_ hw => by have c : World.cell? _ ⟨(w.heap.size + 1), 10, none⟩ = some (.int .i64 t.ap) := (R2.out.below hw R2.out.lt).cell 10 (by omega); first | rfl | (go_simp; done) | (go_simp; rfl) | (go_simp; omega)) hHeld ?_
    simp only [Act.put, List.setIfInBounds_toArray, List.set_cons_zero, List.set_cons_succ]
    refine Cu.takeH 22 (some 31) (.int .i64 (k : Int)) rfl rfl (by kernel_rfl) (by kernel_rfl) (by kernel_rfl) (fun _ _ _ h => h) (by rfl) (fun w_ hw => by first | rfl | (go_simp; done) | (go_simp; rfl) | (go_simp; omega)) hHeld ?_
    simp only [Act.put, List.setIfInBounds_toArray, List.set_cons_zero, List.set_cons_succ]
    refine Cu.takeH 23 (some 32) (.bool true) rfl rfl (by kernel_rfl) (by kernel_rfl) (by kernel_rfl) (fun _ _ _ h => h) (by rfl) (fun w_ hw => by first | rfl | (go_simp; done) | (go_simp; rfl) | (go_simp; omega)) hHeld ?_
    simp only [Act.put, List.setIfInBounds_toArray, List.set_cons_zero, List.set_cons_succ]
    refine Cu.takeH 24 (some 33) (.bool true) rfl rfl (by kernel_rfl) (by kernel_rfl) (by kernel_rfl) (fun _ _ _ h => h) (by rfl) (fun w_ hw => by first | rfl | (go_simp; done) | (go_simp; rfl) | (go_simp; omega)) hHeld ?_
    simp only [Act.put, List.setIfInBounds_toArray, List.set_cons_zero, List.set_cons_succ]
    refine Cu.takeH 25 (some 34) (.bool true) rfl rfl (by kernel_rfl) (by kernel_rfl) (by kernel_rfl) (fun _ _ _ h => h) (by rfl) (fun w_ hw => by first | rfl | (go_simp; done) | (go_simp; rfl) | (go_simp; omega)) hHeld ?_
    simp only [Act.put, List.setIfInBounds_toArray, List.set_cons_zero, List.set_cons_succ]
    refine Cu.takeH 26 (some 35) (.pointer (some ⟨(w.heap.size + 1), 5, none⟩)) rfl rfl (by kernel_rfl) (by kernel_rfl) (by kernel_rfl) (fun _ _ _ h => h) (by rfl) (fun w_ hw => by first | rfl | (go_simp; done) | (go_simp; rfl) | (go_simp; omega)) hHeld ?_
    simp only [Act.put, List.setIfInBounds_toArray, List.set_cons_zero, List.set_cons_succ]
    refine Cu.takeH 27 (some 36) (.slice t.peers.ad t.peers.n t.peers.c) rfl rfl (by kernel_rfl) (by kernel_rfl) (by kernel_rfl) (fun _ _ _ h => h) (by rfl) (fun w_ hw => by have c : World.cell? _ ⟨(w.heap.size + 1), 5, none⟩ = some (.slice t.peers.ad t.peers.n t.peers.c) := (R2.out.below hw R2.out.lt).cell 5 (by omega); first | rfl | (go_simp; done) | (go_simp; rfl) | (go_simp; omega)) hHeld ?_
    simp only [Act.put, List.setIfInBounds_toArray, List.set_cons_zero, List.set_cons_succ]
    refine Cu.takeH 28 (some 37) (.int .i64 (t.peers.n : Int)) rfl rfl (by kernel_rfl) (by kernel_rfl) (by kernel_rfl) (fun _ _ _ h => h) (by rfl) (fun w_ hw => by first | rfl | (go_simp; done) | (go_simp; rfl) | (go_simp; omega)) hHeld ?_
    simp only [Act.put, List.setIfInBounds_toArray, List.set_cons_zero, List.set_cons_succ]
    refine Cu.takeH 29 (some 38) (.int .i64 (k : Int)) rfl rfl (by kernel_rfl) (by kernel_rfl) (by kernel_rfl) (fun _ _ _ h => h) (by rfl) (fun w_ hw => by first | rfl | (go_simp; done) | (go_simp; rfl) | (go_simp; omega)) hHeld ?_
    simp only [Act.put, List.setIfInBounds_toArray, List.set_cons_zero, List.set_cons_succ]
    refine Cu.takeH 30 (some 39) (.bool true) rfl rfl (by kernel_rfl) (by kernel_rfl) (by kernel_rfl) (fun _ _ _ h => h) (by rfl) (fun w_ hw => by first | rfl | (go_simp; done) | (go_simp; rfl) | (go_simp; omega)) hHeld ?_
    simp only [Act.put, List.setIfInBounds_toArray, List.set_cons_zero, List.set_cons_succ]
    refine Cu.takeH 31 (some 40) (.bool true) rfl rfl (by kernel_rfl) (by kernel_rfl) (by kernel_rfl) (fun _ _ _ h => h) (by rfl) (fun w_ hw => by first | rfl | (go_simp; done) | (go_simp; rfl) | (go_simp; omega)) hHeld ?_
    simp only [Act.put, List.setIfInBounds_toArray, List.set_cons_zero, List.set_cons_succ]
    refine Cu.takeH 32 (some 41) (.bool true) rfl rfl (by kernel_rfl) (by kernel_rfl) (by kernel_rfl) (fun _ _ _ h => h) (by rfl) (fun w_ hw => by first | rfl | (go_simp; done) | (go_simp; rfl) | (go_simp; omega)) hHeld ?_
    simp only [Act.put, List.setIfInBounds_toArray, List.set_cons_zero, List.set_cons_succ]
    refine Cu.takeH 33 (some 42) (.pointer (some ⟨(w.heap.size + 1), 5, none⟩)) rfl rfl (by kernel_rfl) (by kernel_rfl) (by kernel_rfl) (fun _ _ _ h => h) (by rfl) (fun w_ hw => by first | rfl | (go_simp; done) | (go_simp; rfl) | (go_simp; omega)) hHeld ?_
    simp only [Act.put, List.setIfInBounds_toArray, List.set_cons_zero, List.set_cons_succ]
    refine Cu.takeH 34 (some 43) (.slice t.peers.ad t.peers.n t.peers.c) rfl rfl (by kernel_rfl) (by kernel_rfl) (by kernel_rfl) (fun _ _ _ h => h) (by rfl) (fun w_ hw => by have c : World.cell? _ ⟨(w.heap.size + 1), 5, none⟩ = some (.slice t.peers.ad t.peers.n t.peers.c) := (R2.out.below hw R2.out.lt).cell 5 (by omega); first | rfl | (go_simp; done) | (go_simp; rfl) | (go_simp; omega)) hHeld ?_
    simp only [Act.put, List.setIfInBounds_toArray, List.set_cons_zero, List.set_cons_succ]
    refine Cu.takeH 35 (some 44) (.int .i64 (k : Int)) rfl rfl (by kernel_rfl) (by kernel_rfl) (by kernel_rfl) (fun _ _ _ h => h) (by rfl) (fun w_ hw => by first | rfl | (go_simp; done) | (go_simp; rfl) | (go_simp; omega)) hHeld ?_
    simp only [Act.put, List.setIfInBounds_toArray, List.set_cons_zero, List.set_cons_succ]
    refine Cu.takeH 36 (some 45) (.slice t.peers.ad k t.peers.c) rfl rfl (by kernel_rfl) (by kernel_rfl) (by kernel_rfl) (fun _ _ _ h => h) (by rfl) (fun w_ hw => by have c := K2.out w_; first | rfl | (go_simp; done) | (go_simp; rfl) | (go_simp; omega)) hHeld ?_
    simp only [Act.put, List.setIfInBounds_toArray, List.set_cons_zero, List.set_cons_succ]
    refine Cu.takeH 37 (some 46) (.pointer (some ⟨w.heap.size, 5, none⟩)) rfl rfl (by kernel_rfl) (by kernel_rfl) (by kernel_rfl) (fun _ _ _ h => h) (by rfl) (fun w_ hw => by first | rfl | (go_simp; done) | (go_simp; rfl) | (go_simp; omega)) hHeld ?_
    simp only [Act.put, List.setIfInBounds_toArray, List.set_cons_zero, List.set_cons_succ]
    refine Cu.takeH 38 (some 47) (.slice s.peers.ad s.peers.n s.peers.c) rfl rfl (by kernel_rfl) (by kernel_rfl) (by kernel_rfl) (fun _ _ _ h => h) (by rfl) (fun w_ hw => by have c : World.cell? _ ⟨w.heap.size, 5, none⟩ = some (.slice s.peers.ad s.peers.n s.peers.c) := (R1.out.below hw R1.out.lt).cell 5 (by omega); first | rfl | (go_simp; done) | (go_simp; rfl) | (go_simp; omega)) hHeld ?_
    simp only [Act.put, List.setIfInBounds_toArray, List.set_cons_zero, List.set_cons_succ]
    refine Cu.takeH 39 (some 48) (.int .i64 (k : Int)) rfl rfl (by kernel_rfl) (by kernel_rfl) (by kernel_rfl) (fun _ _ _ h => h) (by rfl) (fun w_ hw => by first | rfl | (go_simp; done) | (go_simp; rfl) | (go_simp; omega)) hHeld ?_
    simp only [Act.put, List.setIfInBounds_toArray, List.set_cons_zero, List.set_cons_succ]
    refine Cu.takeH 40 (some 49) (.slice s.peers.ad k s.peers.c) rfl rfl (by kernel_rfl) (by kernel_rfl) (by kernel_rfl) (fun _ _ _ h => h) (by rfl) (fun w_ hw => by have c := K3.out w_; first | rfl | (go_simp; done) | (go_simp; rfl) | (go_simp; omega)) hHeld ?_
    simp only [Act.put, List.setIfInBounds_toArray, List.set_cons_zero, List.set_cons_succ]
    refine wpAnyH_ready (rs := [41]) (by kernel_rfl) (by simp) (AllReadyH.cons rfl (fun K hK => ?_) AllReadyH.nil)
    rw [if_pos (by rfl)]
    go_simp
    refine (S2.out _ (gb.trans (hHeld.mono gb.size))).mono ?_
    rintro e wg ⟨rfl, hbq⟩
    try go_wp2_with fail
    refine hK.out _ _ (hHeld.trans (hbq.mono hHeld.size)) (fun hH => ?_)
    clear hK K hHeld
    have hHeld := hH
    clear hH
    refine Cu.takeH 42 (some 51) (.bool true) rfl rfl (by kernel_rfl) (by kernel_rfl) (by kernel_rfl) (fun _ _ _ h => h) (by rfl) (fun w_ hw => by first | rfl | (go_simp; done) | (go_simp; rfl) | (go_simp; omega)) hHeld ?_
    simp only [Act.put, List.setIfInBounds_toArray, List.set_cons_zero, List.set_cons_succ]
    refine Cu.takeH 43 (some 52) (.bool true) rfl rfl (by kernel_rfl) (by kernel_rfl) (by kernel_rfl) (fun _ _ _ h => h) (by rfl) (fun w_ hw => by first | rfl | (go_simp; done) | (go_simp; rfl) | (go_simp; omega)) hHeld ?_
    simp only [Act.put, List.setIfInBounds_toArray, List.set_cons_zero, List.set_cons_succ]
    refine Cu.takeH 44 (some 53) (.pointer (some ⟨w.heap.size, 113, none⟩)) rfl rfl (by kernel_rfl) (by kernel_rfl) (by kernel_rfl) (fun _ _ _ h => h) (by rfl) (fun w_ hw => by first | rfl | (go_simp; done) | (go_simp; rfl) | (go_simp; omega)) hHeld ?_
    simp only [Act.put, List.setIfInBounds_toArray, List.set_cons_zero, List.set_cons_succ]
    refine Cu.takeH 45 (some 54) (.int .i64 s.fail) rfl rfl (by kernel_rfl) (by kernel_rfl) (by kernel_rfl) (fun _ _ _ h => h) (by rfl) (fun w_ hw => by have c : World.cell? _ ⟨w.heap.size, 113, none⟩ = some (.int .i64 s.fail) := (R1.out.below hw R1.out.lt).cell 113 (by omega); first | rfl | (go_simp; done) | (go_simp; rfl) | (go_simp; omega)) hHeld ?_
    simp only [Act.put, List.setIfInBounds_toArray, List.set_cons_zero, List.set_cons_succ]
    refine Cu.takeH 46 (some 55) (.bool true) rfl rfl (by kernel_rfl) (by kernel_rfl) (by kernel_rfl) (fun _ _ _ h => h) (by rfl) (fun w_ hw => by first | rfl | (go_simp; done) | (go_simp; rfl) | (go_simp; omega)) hHeld ?_
    simp only [Act.put, List.setIfInBounds_toArray, List.set_cons_zero, List.set_cons_succ]
    refine Cu.takeH 47 (some 56) (.bool true) rfl rfl (by kernel_rfl) (by kernel_rfl) (by kernel_rfl) (fun _ _ _ h => h) (by rfl) (fun w_ hw => by first | rfl | (go_simp; done) | (go_simp; rfl) | (go_simp; omega)) hHeld ?_
    simp only [Act.put, List.setIfInBounds_toArray, List.set_cons_zero, List.set_cons_succ]
    refine skH 48 (some 57) rfl hHeld ?_
    simp only [Act.put, List.setIfInBounds_toArray, List.set_cons_zero, List.set_cons_succ]
    refine skH 49 (some 58) rfl hHeld ?_
    simp only [Act.put, List.setIfInBounds_toArray, List.set_cons_zero, List.set_cons_succ]
    refine skH 50 (some 59) rfl hHeld ?_
    simp only [Act.put, List.setIfInBounds_toArray, List.set_cons_zero, List.set_cons_succ]
    refine skH 51 (some 60) rfl hHeld ?_
    simp only [Act.put, List.setIfInBounds_toArray, List.set_cons_zero, List.set_cons_succ]
    refine skH 52 (some 61) rfl hHeld ?_
    simp only [Act.put, List.setIfInBounds_toArray, List.set_cons_zero, List.set_cons_succ]
    refine Cu.takeH 53 (some 62) (.bool true) rfl rfl (by kernel_rfl) (by kernel_rfl) (by kernel_rfl) (fun _ _ _ h => h) (by rfl) (fun w_ hw => by first | rfl | (go_simp; done) | (go_simp; rfl) | (go_simp; omega)) hHeld ?_
    simp only [Act.put, List.setIfInBounds_toArray, List.set_cons_zero, List.set_cons_succ]
    refine Cu.takeH 54 (some 63) (.bool true) rfl rfl (by kernel_rfl) (by kernel_rfl) (by kernel_rfl) (fun _ _ _ h => h) (by rfl) (fun w_ hw => by first | rfl | (go_simp; done) | (go_simp; rfl) | (go_simp; omega)) hHeld ?_
    simp only [Act.put, List.setIfInBounds_toArray, List.set_cons_zero, List.set_cons_succ]
    refine Cu.takeH 55 (some 4) (.bool true) rfl rfl (by kernel_rfl) (by kernel_rfl) (by kernel_rfl) (fun _ _ _ h => h) (by rfl) (fun w_ hw => by first | rfl | (go_simp; done) | (go_simp; rfl) | (go_simp; omega)) hHeld ?_
    simp only [Act.put, List.setIfInBounds_toArray, List.set_cons_zero, List.set_cons_succ]
    refine ⟨by kernel_rfl, ?_⟩
    refine NoPanic.normal ?_
    have bF := hHeld
    go_wp2
    go_ret
    exact ⟨rfl, gb.trans (bF.mono gb.size)⟩
  | false =>
    have f2 : (t.fail == s.fail) = true := by
      rcases hf with h | h
      · rw [h] at f1; simp at f1
      · rw [h]; simp
    clear hf
    go_enter Tryz.func18, Tryz.ntmps18
    go_wp2
    refine wp_region_noPanic ?_
    refine wp_region_held_drew (S := fun wx => Below w2.heap.size w2 wx) (by kernel_rfl) ((Below.refl _ _).drew) (fun hHeld => ?_)
    generalize hwd : World.drew w2 = wd at hHeld ⊢
    clear hwd
    refine Cu.takeH 0 (some 9) (.pointer (some ⟨(w.heap.size + 1), 4, none⟩)) rfl rfl (by kernel_rfl) (by kernel_rfl) (by kernel_rfl) (fun _ _ _ h => h) (by rfl) (fun w_ hw => by first | rfl | (go_simp; done) | (go_simp; rfl) | (go_simp; omega)) hHeld ?_
    simp only [Act.put, List.setIfInBounds_toArray, List.set_cons_zero, List.set_cons_succ]
    refine Cu.takeH 1 (some 10) (.slice t.ours.ad t.ours.n t.ours.c) rfl rfl (by kernel_rfl) (by kernel_rfl) (by kernel_rfl) (fun _ _ _ h => h) (by rfl) (fun w_ hw => by have c : World.cell? _ ⟨(w.heap.size + 1), 4, none⟩ = some (.slice t.ours.ad t.ours.n t.ours.c) := (R2.out.below hw R2.out.lt).cell 4 (by omega); first | rfl | (go_simp; done) | (go_simp; rfl) | (go_simp; omega)) hHeld ?_
    simp only [Act.put, List.setIfInBounds_toArray, List.set_cons_zero, List.set_cons_succ]
    refine Cu.takeH 2 (some 11) (.int .i64 (t.ours.n : Int)) rfl rfl (by kernel_rfl) (by kernel_rfl) (by kernel_rfl) (fun _ _ _ h => h) (by rfl) (fun w_ hw => by first | rfl | (go_simp; done) | (go_simp; rfl) | (go_simp; omega)) hHeld ?_
    simp only [Act.put, List.setIfInBounds_toArray, List.set_cons_zero, List.set_cons_succ]
    refine Cu.takeH 3 (some 12) (.pointer (some ⟨w.heap.size, 4, none⟩)) rfl rfl (by kernel_rfl) (by kernel_rfl) (by kernel_rfl) (fun _ _ _ h => h) (by rfl) (fun w_ hw => by first | rfl | (go_simp; done) | (go_simp; rfl) | (go_simp; omega)) hHeld ?_
    simp only [Act.put, List.setIfInBounds_toArray, List.set_cons_zero, List.set_cons_succ]
    refine Cu.takeH 4 (some 13) (.slice s.ours.ad s.ours.n s.ours.c) rfl rfl (by kernel_rfl) (by kernel_rfl) (by kernel_rfl) (fun _ _ _ h => h) (by rfl) (fun w_ hw => by have c : World.cell? _ ⟨w.heap.size, 4, none⟩ = some (.slice s.ours.ad s.ours.n s.ours.c) := (R1.out.below hw R1.out.lt).cell 4 (by omega); first | rfl | (go_simp; done) | (go_simp; rfl) | (go_simp; omega)) hHeld ?_
    simp only [Act.put, List.setIfInBounds_toArray, List.set_cons_zero, List.set_cons_succ]
    refine Cu.takeH 5 (some 14) (.int .i64 (s.ours.n : Int)) rfl rfl (by kernel_rfl) (by kernel_rfl) (by kernel_rfl) (fun _ _ _ h => h) (by rfl) (fun w_ hw => by first | rfl | (go_simp; done) | (go_simp; rfl) | (go_simp; omega)) hHeld ?_
    simp only [Act.put, List.setIfInBounds_toArray, List.set_cons_zero, List.set_cons_succ]
    refine Cu.takeH 6 (some 15) (.bool true) rfl rfl (by kernel_rfl) (by kernel_rfl) (by kernel_rfl) (fun _ _ _ h => h) (by rfl) (fun w_ hw => by first | rfl | (go_simp; done) | (go_simp; rfl) | (go_simp; omega)) hHeld ?_
    simp only [Act.put, List.setIfInBounds_toArray, List.set_cons_zero, List.set_cons_succ]
    refine Cu.takeH 7 (some 16) (.bool true) rfl rfl (by kernel_rfl) (by kernel_rfl) (by kernel_rfl) (fun _ _ _ h => h) (by rfl) (fun w_ hw => by first | rfl | (go_simp; done) | (go_simp; rfl) | (go_simp; omega)) hHeld ?_
    simp only [Act.put, List.setIfInBounds_toArray, List.set_cons_zero, List.set_cons_succ]
    refine Cu.takeH 8 (some 17) (.pointer (some ⟨(w.heap.size + 1), 4, none⟩)) rfl rfl (by kernel_rfl) (by kernel_rfl) (by kernel_rfl) (fun _ _ _ h => h) (by rfl) (fun w_ hw => by first | rfl | (go_simp; done) | (go_simp; rfl) | (go_simp; omega)) hHeld ?_
    simp only [Act.put, List.setIfInBounds_toArray, List.set_cons_zero, List.set_cons_succ]
    refine Cu.takeH 9 (some 18) (.slice t.ours.ad t.ours.n t.ours.c) rfl rfl (by kernel_rfl) (by kernel_rfl) (by kernel_rfl) (fun _ _ _ h => h) (by rfl) (fun w_ hw => by have c : World.cell? _ ⟨(w.heap.size + 1), 4, none⟩ = some (.slice t.ours.ad t.ours.n t.ours.c) := (R2.out.below hw R2.out.lt).cell 4 (by omega); first | rfl | (go_simp; done) | (go_simp; rfl) | (go_simp; omega)) hHeld ?_
    simp only [Act.put, List.setIfInBounds_toArray, List.set_cons_zero, List.set_cons_succ]
    refine Cu.takeH 10 (some 19) (.pointer (some ⟨w.heap.size, 4, none⟩)) rfl rfl (by kernel_rfl) (by kernel_rfl) (by kernel_rfl) (fun _ _ _ h => h) (by rfl) (fun w_ hw => by first | rfl | (go_simp; done) | (go_simp; rfl) | (go_simp; omega)) hHeld ?_
    simp only [Act.put, List.setIfInBounds_toArray, List.set_cons_zero, List.set_cons_succ]
    refine Cu.takeH 11 (some 20) (.slice s.ours.ad s.ours.n s.ours.c) rfl rfl (by kernel_rfl) (by kernel_rfl) (by kernel_rfl) (fun _ _ _ h => h) (by rfl) (fun w_ hw => by have c : World.cell? _ ⟨w.heap.size, 4, none⟩ = some (.slice s.ours.ad s.ours.n s.ours.c) := (R1.out.below hw R1.out.lt).cell 4 (by omega); first | rfl | (go_simp; done) | (go_simp; rfl) | (go_simp; omega)) hHeld ?_
    simp only [Act.put, List.setIfInBounds_toArray, List.set_cons_zero, List.set_cons_succ]
    refine Cu.takeH 12 (some 21) (.int .i64 (s.ours.n : Int)) rfl rfl (by kernel_rfl) (by kernel_rfl) (by kernel_rfl) (fun _ _ _ h => h) (by rfl) (fun w_ hw => by first | rfl | (go_simp; done) | (go_simp; rfl) | (go_simp; omega)) hHeld ?_
    simp only [Act.put, List.setIfInBounds_toArray, List.set_cons_zero, List.set_cons_succ]
    refine Cu.takeH 13 (some 22) (.slice t.ours.ad s.ours.n t.ours.c) rfl rfl (by kernel_rfl) (by kernel_rfl) (by kernel_rfl) (fun _ _ _ h => h) (by rfl) (fun w_ hw => by have c := K1.out w_; first | rfl | (go_simp; done) | (go_simp; rfl) | (go_simp; omega)) hHeld ?_
    simp only [Act.put, List.setIfInBounds_toArray, List.set_cons_zero, List.set_cons_succ]
    refine Cu.takeH 14 (some 23) (.pointer (some ⟨w.heap.size, 4, none⟩)) rfl rfl (by kernel_rfl) (by kernel_rfl) (by kernel_rfl) (fun _ _ _ h => h) (by rfl) (fun w_ hw => by first | rfl | (go_simp; done) | (go_simp; rfl) | (go_simp; omega)) hHeld ?_
    simp only [Act.put, List.setIfInBounds_toArray, List.set_cons_zero, List.set_cons_succ]
    refine Cu.takeH 15 (some 24) (.slice s.ours.ad s.ours.n s.ours.c) rfl rfl (by kernel_rfl) (by kernel_rfl) (by kernel_rfl) (fun _ _ _ h => h) (by rfl) (fun w_ hw => by have c : World.cell? _ ⟨w.heap.size, 4, none⟩ = some (.slice s.ours.ad s.ours.n s.ours.c) := (R1.out.below hw R1.out.lt).cell 4 (by omega); first | rfl | (go_simp; done) | (go_simp; rfl) | (go_simp; omega)) hHeld ?_
    simp only [Act.put, List.setIfInBounds_toArray, List.set_cons_zero, List.set_cons_succ]
    refine wpAnyH_ready (rs := [16]) (by kernel_rfl) (by simp) (AllReadyH.cons rfl (fun K hK => ?_) AllReadyH.nil)
    rw [if_pos (by rfl)]
    go_simp
    refine (S1.out _ (gb.trans (hHeld.mono gb.size))).mono ?_
    rintro e wf ⟨rfl, hbq⟩
    try go_wp2_with fail
    refine hK.out _ _ (hHeld.trans (hbq.mono hHeld.size)) (fun hH => ?_)
    clear hK K hHeld
    have hHeld := hH
    clear hH
    refine Cu.takeH 17 (some 26) (.bool true) rfl rfl (by kernel_rfl) (by kernel_rfl) (by kernel_rfl) (fun _ _ _ h => h) (by rfl) (fun w_ hw => by first | rfl | (go_simp; done) | (go_simp; rfl) | (go_simp; omega)) hHeld ?_
    simp only [Act.put, List.setIfInBounds_toArray, List.set_cons_zero, List.set_cons_succ]
    refine Cu.takeH 18 (some 27) (.bool true) rfl rfl (by kernel_rfl) (by kernel_rfl) (by kernel_rfl) (fun _ _ _ h => h) (by rfl) (fun w_ hw => by first | rfl | (go_simp; done) | (go_simp; rfl) | (go_simp; omega)) hHeld ?_
    simp only [Act.put, List.setIfInBounds_toArray, List.set_cons_zero, List.set_cons_succ]
    refine Cu.takeH 19 (some 28) (.pointer (some ⟨(w.heap.size + 1), 9, none⟩)) rfl rfl (by kernel_rfl) (by kernel_rfl) (by kernel_rfl) (fun _ _ _ h => h) (by rfl) (fun w_ hw => by first | rfl | (go_simp; done) | (go_simp; rfl) | (go_simp; omega)) hHeld ?_
    simp only [Act.put, List.setIfInBounds_toArray, List.set_cons_zero, List.set_cons_succ]
    refine Cu.takeH 20 (some 29) (.pointer (some ⟨(w.heap.size + 1), 10, none⟩)) rfl rfl (by kernel_rfl) (by kernel_rfl) (by kernel_rfl) (fun _ _ _ h => h) (by rfl) (fun w_ hw => by first | rfl | (go_simp; done) | (go_simp; rfl) | (go_simp; omega)) hHeld ?_
    simp only [Act.put, List.setIfInBounds_toArray, List.set_cons_zero, List.set_cons_succ]
    refine Cu.takeH 21 (some 30) (.int .i64 t.ap) rfl rfl (by kernel_rfl) (by kernel_rfl) (by kernel_rfl) (fun _ _ _ h => h) (by rfl) (fun w_ hw => by have c : World.cell? _ ⟨(w.heap.size + 1), 10, none⟩ = some (.int .i64 t.ap) := (R2.out.below hw R2.out.lt).cell 10 (by omega); first | rfl | (go_simp; done) | (go_simp; rfl) | (go_simp; omega)) hHeld ?_
    simp only [Act.put, List.setIfInBounds_toArray, List.set_cons_zero, List.set_cons_succ]
    refine Cu.takeH 22 (some 31) (.int .i64 (k : Int)) rfl rfl (by kernel_rfl) (by kernel_rfl) (by kernel_rfl) (fun _ _ _ h => h) (by rfl) (fun w_ hw => by first | rfl | (go_simp; done) | (go_simp; rfl) | (go_simp; omega)) hHeld ?_
    simp only [Act.put, List.setIfInBounds_toArray, List.set_cons_zero, List.set_cons_succ]
    refine Cu.takeH 23 (some 32) (.bool true) rfl rfl (by kernel_rfl) (by kernel_rfl) (by kernel_rfl) (fun _ _ _ h => h) (by rfl) (fun w_ hw => by first | rfl | (go_simp; done) | (go_simp; rfl) | (go_simp; omega)) hHeld ?_
    simp only [Act.put, List.setIfInBounds_toArray, List.set_cons_zero, List.set_cons_succ]
    refine Cu.takeH 24 (some 33) (.bool true) rfl rfl (by kernel_rfl) (by kernel_rfl) (by kernel_rfl) (fun _ _ _ h => h) (by rfl) (fun w_ hw => by first | rfl | (go_simp; done) | (go_simp; rfl) | (go_simp; omega)) hHeld ?_
    simp only [Act.put, List.setIfInBounds_toArray, List.set_cons_zero, List.set_cons_succ]
    refine Cu.takeH 25 (some 34) (.bool true) rfl rfl (by kernel_rfl) (by kernel_rfl) (by kernel_rfl) (fun _ _ _ h => h) (by rfl) (fun w_ hw => by first | rfl | (go_simp; done) | (go_simp; rfl) | (go_simp; omega)) hHeld ?_
    simp only [Act.put, List.setIfInBounds_toArray, List.set_cons_zero, List.set_cons_succ]
    refine Cu.takeH 26 (some 35) (.pointer (some ⟨(w.heap.size + 1), 5, none⟩)) rfl rfl (by kernel_rfl) (by kernel_rfl) (by kernel_rfl) (fun _ _ _ h => h) (by rfl) (fun w_ hw => by first | rfl | (go_simp; done) | (go_simp; rfl) | (go_simp; omega)) hHeld ?_
    simp only [Act.put, List.setIfInBounds_toArray, List.set_cons_zero, List.set_cons_succ]
    refine Cu.takeH 27 (some 36) (.slice t.peers.ad t.peers.n t.peers.c) rfl rfl (by kernel_rfl) (by kernel_rfl) (by kernel_rfl) (fun _ _ _ h => h) (by rfl) (fun w_ hw => by have c : World.cell? _ ⟨(w.heap.size + 1), 5, none⟩ = some (.slice t.peers.ad t.peers.n t.peers.c) := (R2.out.below hw R2.out.lt).cell 5 (by omega); first | rfl | (go_simp; done) | (go_simp; rfl) | (go_simp; omega)) hHeld ?_
    simp only [Act.put, List.setIfInBounds_toArray, List.set_cons_zero, List.set_cons_succ]
    refine Cu.takeH 28 (some 37) (.int .i64 (t.peers.n : Int)) rfl rfl (by kernel_rfl) (by kernel_rfl) (by kernel_rfl) (fun _ _ _ h => h) (by rfl) (fun w_ hw => by first | rfl | (go_simp; done) | (go_simp; rfl) | (go_simp; omega)) hHeld ?_
    simp only [Act.put, List.setIfInBounds_toArray, List.set_cons_zero, List.set_cons_succ]
    refine Cu.takeH 29 (some 38) (.int .i64 (k : Int)) rfl rfl (by kernel_rfl) (by kernel_rfl) (by kernel_rfl) (fun _ _ _ h => h) (by rfl) (fun w_ hw => by first | rfl | (go_simp; done) | (go_simp; rfl) | (go_simp; omega)) hHeld ?_
    simp only [Act.put, List.setIfInBounds_toArray, List.set_cons_zero, List.set_cons_succ]
    refine Cu.takeH 30 (some 39) (.bool true) rfl rfl (by kernel_rfl) (by kernel_rfl) (by kernel_rfl) (fun _ _ _ h => h) (by rfl) (fun w_ hw => by first | rfl | (go_simp; done) | (go_simp; rfl) | (go_simp; omega)) hHeld ?_
    simp only [Act.put, List.setIfInBounds_toArray, List.set_cons_zero, List.set_cons_succ]
    refine Cu.takeH 31 (some 40) (.bool true) rfl rfl (by kernel_rfl) (by kernel_rfl) (by kernel_rfl) (fun _ _ _ h => h) (by rfl) (fun w_ hw => by first | rfl | (go_simp; done) | (go_simp; rfl) | (go_simp; omega)) hHeld ?_
    simp only [Act.put, List.setIfInBounds_toArray, List.set_cons_zero, List.set_cons_succ]
    refine Cu.takeH 32 (some 41) (.bool true) rfl rfl (by kernel_rfl) (by kernel_rfl) (by kernel_rfl) (fun _ _ _ h => h) (by rfl) (fun w_ hw => by first | rfl | (go_simp; done) | (go_simp; rfl) | (go_simp; omega)) hHeld ?_
    simp only [Act.put, List.setIfInBounds_toArray, List.set_cons_zero, List.set_cons_succ]
    refine Cu.takeH 33 (some 42) (.pointer (some ⟨(w.heap.size + 1), 5, none⟩)) rfl rfl (by kernel_rfl) (by kernel_rfl) (by kernel_rfl) (fun _ _ _ h => h) (by rfl) (fun w_ hw => by first | rfl | (go_simp; done) | (go_simp; rfl) | (go_simp; omega)) hHeld ?_
    simp only [Act.put, List.setIfInBounds_toArray, List.set_cons_zero, List.set_cons_succ]
    refine Cu.takeH 34 (some 43) (.slice t.peers.ad t.peers.n t.peers.c) rfl rfl (by kernel_rfl) (by kernel_rfl) (by kernel_rfl) (fun _ _ _ h => h) (by rfl) (fun w_ hw => by have c : World.cell? _ ⟨(w.heap.size + 1), 5, none⟩ = some (.slice t.peers.ad t.peers.n t.peers.c) := (R2.out.below hw R2.out.lt).cell 5 (by omega); first | rfl | (go_simp; done) | (go_simp; rfl) | (go_simp; omega)) hHeld ?_
    simp only [Act.put, List.setIfInBounds_toArray, List.set_cons_zero, List.set_cons_succ]
    refine Cu.takeH 35 (some 44) (.int .i64 (k : Int)) rfl rfl (by kernel_rfl) (by kernel_rfl) (by kernel_rfl) (fun _ _ _ h => h) (by rfl) (fun w_ hw => by first | rfl | (go_simp; done) | (go_simp; rfl) | (go_simp; omega)) hHeld ?_
    simp only [Act.put, List.setIfInBounds_toArray, List.set_cons_zero, List.set_cons_succ]
    refine Cu.takeH 36 (some 45) (.slice t.peers.ad k t.peers.c) rfl rfl (by kernel_rfl) (by kernel_rfl) (by kernel_rfl) (fun _ _ _ h => h) (by rfl) (fun w_ hw => by have c := K2.out w_; first | rfl | (go_simp; done) | (go_simp; rfl) | (go_simp; omega)) hHeld ?_
    simp only [Act.put, List.setIfInBounds_toArray, List.set_cons_zero, List.set_cons_succ]
    refine Cu.takeH 37 (some 46) (.pointer (some ⟨w.heap.size, 5, none⟩)) rfl rfl (by kernel_rfl) (by kernel_rfl) (by kernel_rfl) (fun _ _ _ h => h) (by rfl) (fun w_ hw => by first | rfl | (go_simp; done) | (go_simp; rfl) | (go_simp; omega)) hHeld ?_
    simp only [Act.put, List.setIfInBounds_toArray, List.set_cons_zero, List.set_cons_succ]
    refine Cu.takeH 38 (some 47) (.slice s.peers.ad s.peers.n s.peers.c) rfl rfl (by kernel_rfl) (by kernel_rfl) (by kernel_rfl) (fun _ _ _ h => h) (by rfl) (fun w_ hw => by have c : World.cell? _ ⟨w.heap.size, 5, none⟩ = some (.slice s.peers.ad s.peers.n s.peers.c) := (R1.out.below hw R1.out.lt).cell 5 (by omega); first | rfl | (go_simp; done) | (go_simp; rfl) | (go_simp; omega)) hHeld ?_
    simp only [Act.put, List.setIfInBounds_toArray, List.set_cons_zero, List.set_cons_succ]
    refine Cu.takeH 39 (some 48) (.int .i64 (k : Int)) rfl rfl (by kernel_rfl) (by kernel_rfl) (by kernel_rfl) (fun _ _ _ h => h) (by rfl) (fun w_ hw => by first | rfl | (go_simp; done) | (go_simp; rfl) | (go_simp; omega)) hHeld ?_
    simp only [Act.put, List.setIfInBounds_toArray, List.set_cons_zero, List.set_cons_succ]
    refine Cu.takeH 40 (some 49) (.slice s.peers.ad k s.peers.c) rfl rfl (by kernel_rfl) (by kernel_rfl) (by kernel_rfl) (fun _ _ _ h => h) (by rfl) (fun w_ hw => by have c := K3.out w_; first | rfl | (go_simp; done) | (go_simp; rfl) | (go_simp; omega)) hHeld ?_
    simp only [Act.put, List.setIfInBounds_toArray, List.set_cons_zero, List.set_cons_succ]
    refine wpAnyH_ready (rs := [41]) (by kernel_rfl) (by simp) (AllReadyH.cons rfl (fun K hK => ?_) AllReadyH.nil)
    rw [if_pos (by rfl)]
    go_simp
    refine (S2.out _ (gb.trans (hHeld.mono gb.size))).mono ?_
    rintro e wg ⟨rfl, hbq⟩
    try go_wp2_with fail
    refine hK.out _ _ (hHeld.trans (hbq.mono hHeld.size)) (fun hH => ?_)
    clear hK K hHeld
    have hHeld := hH
    clear hH
    refine Cu.takeH 42 (some 51) (.bool true) rfl rfl (by kernel_rfl) (by kernel_rfl) (by kernel_rfl) (fun _ _ _ h => h) (by rfl) (fun w_ hw => by first | rfl | (go_simp; done) | (go_simp; rfl) | (go_simp; omega)) hHeld ?_
    simp only [Act.put, List.setIfInBounds_toArray, List.set_cons_zero, List.set_cons_succ]
    refine Cu.takeH 43 (some 52) (.bool true) rfl rfl (by kernel_rfl) (by kernel_rfl) (by kernel_rfl) (fun _ _ _ h => h) (by rfl) (fun w_ hw => by first | rfl | (go_simp; done) | (go_simp; rfl) | (go_simp; omega)) hHeld ?_
    simp only [Act.put, List.setIfInBounds_toArray, List.set_cons_zero, List.set_cons_succ]
    refine Cu.takeH 44 (some 53) (.pointer (some ⟨w.heap.size, 113, none⟩)) rfl rfl (by kernel_rfl) (by kernel_rfl) (by kernel_rfl) (fun _ _ _ h => h) (by rfl) (fun w_ hw => by first | rfl | (go_simp; done) | (go_simp; rfl) | (go_simp; omega)) hHeld ?_
    simp only [Act.put, List.setIfInBounds_toArray, List.set_cons_zero, List.set_cons_succ]
    refine Cu.takeH 45 (some 54) (.int .i64 s.fail) rfl rfl (by kernel_rfl) (by kernel_rfl) (by kernel_rfl) (fun _ _ _ h => h) (by rfl) (fun w_ hw => by have c : World.cell? _ ⟨w.heap.size, 113, none⟩ = some (.int .i64 s.fail) := (R1.out.below hw R1.out.lt).cell 113 (by omega); first | rfl | (go_simp; done) | (go_simp; rfl) | (go_simp; omega)) hHeld ?_
    simp only [Act.put, List.setIfInBounds_toArray, List.set_cons_zero, List.set_cons_succ]
    refine Cu.takeH 46 (some 55) (.bool false) rfl rfl (by kernel_rfl) (by kernel_rfl) (by kernel_rfl) (fun _ _ _ h => h) (by rfl) (fun w_ hw => by first | rfl | (go_simp; done) | (go_simp; rfl) | (go_simp; omega)) hHeld ?_
    simp only [Act.put, List.setIfInBounds_toArray, List.set_cons_zero, List.set_cons_succ]
    refine Cu.takeH 47 (some 56) (.bool false) rfl rfl (by kernel_rfl) (by kernel_rfl) (by kernel_rfl) (fun _ _ _ h => h) (by rfl) (fun w_ hw => by first | rfl | (go_simp; done) | (go_simp; rfl) | (go_simp; omega)) hHeld ?_
    simp only [Act.put, List.setIfInBounds_toArray, List.set_cons_zero, List.set_cons_succ]
    refine Cu.takeH 48 (some 57) (.pointer (some ⟨(w.heap.size + 1), 113, none⟩)) rfl rfl (by kernel_rfl) (by kernel_rfl) (by kernel_rfl) (fun _ _ _ h => h) (by rfl) (fun w_ hw => by first | rfl | (go_simp; done) | (go_simp; rfl) | (go_simp; omega)) hHeld ?_
    simp only [Act.put, List.setIfInBounds_toArray, List.set_cons_zero, List.set_cons_succ]
    refine Cu.takeH 49 (some 58) (.int .i64 t.fail) rfl rfl (by kernel_rfl) (by kernel_rfl) (by kernel_rfl) (fun _ _ _ h => h) (by rfl) (fun w_ hw => by have c : World.cell? _ ⟨(w.heap.size + 1), 113, none⟩ = some (.int .i64 t.fail) := (R2.out.below hw R2.out.lt).cell 113 (by omega); first | rfl | (go_simp; done) | (go_simp; rfl) | (go_simp; omega)) hHeld ?_
    simp only [Act.put, List.setIfInBounds_toArray, List.set_cons_zero, List.set_cons_succ]
    refine Cu.takeH 50 (some 59) (.pointer (some ⟨w.heap.size, 113, none⟩)) rfl rfl (by kernel_rfl) (by kernel_rfl) (by kernel_rfl) (fun _ _ _ h => h) (by rfl) (fun w_ hw => by first | rfl | (go_simp; done) | (go_simp; rfl) | (go_simp; omega)) hHeld ?_
    simp only [Act.put, List.setIfInBounds_toArray, List.set_cons_zero, List.set_cons_succ]
    refine Cu.takeH 51 (some 60) (.int .i64 s.fail) rfl rfl (by kernel_rfl) (by kernel_rfl) (by kernel_rfl) (fun _ _ _ h => h) (by rfl) (fun w_ hw => by have c : World.cell? _ ⟨w.heap.size, 113, none⟩ = some (.int .i64 s.fail) := (R1.out.below hw R1.out.lt).cell 113 (by omega); first | rfl | (go_simp; done) | (go_simp; rfl) | (go_simp; omega)) hHeld ?_
    simp only [Act.put, List.setIfInBounds_toArray, List.set_cons_zero, List.set_cons_succ]
    refine Cu.takeH 52 (some 61) (.bool true) rfl rfl (by kernel_rfl) (by kernel_rfl) (by kernel_rfl) (fun _ _ _ h => h) (by rfl) (fun w_ hw => by first | rfl | (go_simp; done) | (go_simp; rfl) | (go_simp; omega)) hHeld ?_
    simp only [Act.put, List.setIfInBounds_toArray, List.set_cons_zero, List.set_cons_succ]
    refine Cu.takeH 53 (some 62) (.bool true) rfl rfl (by kernel_rfl) (by kernel_rfl) (by kernel_rfl) (fun _ _ _ h => h) (by rfl) (fun w_ hw => by first | rfl | (go_simp; done) | (go_simp; rfl) | (go_simp; omega)) hHeld ?_
    simp only [Act.put, List.setIfInBounds_toArray, List.set_cons_zero, List.set_cons_succ]
    refine Cu.takeH 54 (some 63) (.bool true) rfl rfl (by kernel_rfl) (by kernel_rfl) (by kernel_rfl) (fun _ _ _ h => h) (by rfl) (fun w_ hw => by first | rfl | (go_simp; done) | (go_simp; rfl) | (go_simp; omega)) hHeld ?_
    simp only [Act.put, List.setIfInBounds_toArray, List.set_cons_zero, List.set_cons_succ]
    refine Cu.takeH 55 (some 4) (.bool true) rfl rfl (by kernel_rfl) (by kernel_rfl) (by kernel_rfl) (fun _ _ _ h => h) (by rfl) (fun w_ hw => by first | rfl | (go_simp; done) | (go_simp; rfl) | (go_simp; omega)) hHeld ?_
    simp only [Act.put, List.setIfInBounds_toArray, List.set_cons_zero, List.set_cons_succ]
    refine ⟨by kernel_rfl, ?_⟩
    refine NoPanic.normal ?_
    have bF := hHeld
    go_wp2
    go_ret
    exact ⟨rfl, gb.trans (bF.mono gb.size)⟩
end Go.Proofs.YtlohfoggcdaeiaaGreat
