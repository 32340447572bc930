/-
  What a commitment that came makes of a state (printed by gen_r8.py, gen_r8e.py).
-/
import Derived.Test.YtlohfoggcdaeiaaGreatRApp2
import Derived.BigQuiet
import Derived.Deep.QuietTactic
import Derived.Lib.SliceRun
import Derived.Deep.DeepCutAuto
import Derived.Deep.Cut
namespace Go.Proofs.YtlohfoggcdaeiaaGreat
open Go.RowKit S
set_option linter.unusedVariables false
set_option linter.unusedSimpArgs false
open Cu (nb be hl ofL CW Mw CR Mr RS takeS takeA hOf nil8 num doneS)
theorem elU : Tryz.prog.underlying 27 = some (.slice (Tryz.prog.elem 27)) := by kernel_rfl
theorem elU2 : Tryz.prog.elem 27 = 36 := by kernel_rfl
theorem sizeU (w : World) : (sizeOf (Tryz.prog.elem 27)).run Tryz.prog w = .ok 36 w := by
  obtain ⟨i, h1, h2, h3, h4⟩ := infoUP
  rw [elU2]
  simp [sizeOf, typeInfo, h1, h3]
theorem add0 (x : Addr) : x.add 0 = x := by unfold Addr.add; split <;> simp_all
theorem sliceK (w : World) (ad : Option Addr) (n cap k : Nat) (hk : k ≤ cap) : (Instr.sliceAt 27 (.slice ad n cap) none (some (.int .i64 (k : Int))) none).run Tryz.prog w = .ok (.slice ad k cap) w := by
  have e := run_sliceAt_slice (P := Tryz.prog) w 27 (.slice ad n cap) none (some (.int .i64 (k : Int))) none elU
  have e2 := run_slice_h (P := Tryz.prog) w 27 ad n cap elU .i64 (k : Int) (by omega) (by omega)
  rw [e, e2, sizeU]
  simp only [Result.andThen, sliced]
  have : (if cap = 0 then ad else ad.map (·.add (0 * 36))) = ad := by
    split
    · rfl
    · cases ad <;> simp [add0]
  rw [this]; simp
def setP (s : St) (x : Sl) : St := setSl s s.ours x s.shelf
def nexts [Inhabited S.Tbl] (mine others : List Upd) : List Upd → Bool
  | [] => true
  | u :: us => (nextA mine others u == 0) && nexts (mine ++ [u]) others us
def cmOk [Inhabited S.Tbl] (s : St) (lo lp : List Upd) (x : Int) (lr : List Upd) : Bool := (x == wrap64 (s.loc + 1)) && (decide (0 ≤ s.ap) && (decide (s.ap ≤ (lp.length : Int)) && nexts (lp.take s.ap.toNat) lo lr))
def AbIf (b : Bool) (P : Prop) : Prop := b = true → P
theorem OwnU.part {B : Nat} {w : World} {ad : Option Addr} {n c : Nat} {l : List Upd} (h : OwnU B w (.slice ad n c) l) (k : Nat) (hk : k ≤ n) : OwnU B w (.slice ad k c) (l.take k) ∧ (Value.slice ad k c).ownBlock = (Value.slice ad n c).ownBlock := by
  obtain ⟨hl, ⟨e, hn⟩ | ⟨g, cap, cur, e, hb, hg, h1, h2, h3, h4⟩⟩ := h
  · cases e
    obtain rfl : k = 0 := by omega
    exact ⟨by rw [List.take_zero]; exact OwnU.nil B w, rfl⟩
  · simp only [Value.slice.injEq] at e
    obtain ⟨rfl, rfl, rfl⟩ := e
    have hkl : (l.take k).length = k := by rw [List.length_take]; omega
    have hc : cellsU (l.take k) = (cellsU l).take (k * 36) := by
      have e1 : cellsU l = cellsU (l.take k) ++ cellsU (l.drop k) := by rw [← cellsU_append, List.take_append_drop]
      have e2 : (cellsU (l.take k)).length = k * 36 := by rw [cellsU_length, hkl]
      rw [e1, ← e2, List.take_left]
    refine ⟨⟨by rw [cellsU_length], .inr ⟨g, c, cur, by rw [hkl], hb, hg, by rw [hkl]; omega, h2, h3, ?_⟩⟩, rfl⟩
    rw [hkl, hc, ← h4, List.take_take, Nat.min_eq_left (Nat.mul_le_mul_right _ hk)]
/-- The state at p, the kind's value at g, and a row that grows. -/
structure CL (B p z g : Nat) (f : Nat → Value) (s : St) (x : Sl) (lo l : List Upd) (ls : List Slot) (w : World) : Prop where
  st : Has w p 31 s.v 115
  bx : Has w g 103 f 34
  os : OS B w (setP s x) lo l ls
  hp : B ≤ p
  np : s.ours.v.ownBlock ≠ some p ∧ x.v.ownBlock ≠ some p ∧ s.shelf.v.ownBlock ≠ some p
  ng : x.v.ownBlock ≠ some g ∧ g ≠ p
  kp : Has w z 31 St.zero.v 115
  nz : z ≠ p ∧ s.ours.v.ownBlock ≠ some z ∧ x.v.ownBlock ≠ some z ∧ s.shelf.v.ownBlock ≠ some z
section
variable {B p z g : Nat} {f : Nat → Value} {s : St} {x x' : Sl} {lo l : List Upd} {ls : List Slot} {w w' : World}
theorem CL.size (h : CL B p z g f s x lo l ls w) : B ≤ w.heap.size := by have := h.st.lt; have := h.hp; omega
theorem CL.low (h : CL B p z g f s x lo l ls w) (hb : Below w.heap.size w w') : CL B p z g f s x lo l ls w' := ⟨h.st.below hb h.st.lt, h.bx.below hb h.bx.lt, h.os.below hb, h.hp, h.np, h.ng, h.kp.below hb h.kp.lt, h.nz⟩
theorem CL.app {u : Upd} (h : CL B p z g f s x lo l ls w) (O : OwnU B w' x'.v (l ++ [u])) (gr : ∀ g, g < w.heap.size → x.v.ownBlock ≠ some g → w'.heap[g]? = w.heap[g]?) (own : ∀ k, x'.v.ownBlock = some k → x.v.ownBlock = some k ∨ w.heap.size ≤ k) : CL B p z g f s x' lo (l ++ [u]) ls w' := by
  have ol := h.os.o.lt
  have fl := h.os.f.lt
  refine ⟨h.st.same (gr p h.st.lt h.np.2.1), h.bx.same (gr g h.bx.lt h.ng.1), ⟨h.os.o.same fun k hk => gr k (ol k hk).2 (h.os.op k hk), O, h.os.f.same fun k hk => gr k (fl k hk).2 (fun e => h.os.ps k e hk), fun k hk e => ?_, h.os.os, fun k hk e => ?_⟩, h.hp, ⟨h.np.1, fun e => ?_, h.np.2.2⟩, ⟨fun e => ?_, h.ng.2⟩, h.kp.same (gr z h.kp.lt h.nz.2.2.1), h.nz.1, h.nz.2.1, fun e => ?_, h.nz.2.2.2⟩
  · rcases own k e with e1 | e1
    · exact h.os.op k hk e1
    · have := (ol k hk).2; omega
  · rcases own k hk with e1 | e1
    · exact h.os.ps k e1 e
    · have := (fl k e).2; omega
  · rcases own p e with e1 | e1
    · exact h.np.2.1 e1
    · have := h.st.lt; omega
  · rcases own g e with e1 | e1
    · exact h.ng.1 e1
    · have := h.bx.lt; omega
  · rcases own z e with e1 | e1
    · exact h.nz.2.2.1 e1
    · have := h.kp.lt; omega
theorem CL.fin (h : CL B p z g f s x lo l ls w) : AB B p z (setP s x) lo l ls (w.setCell ⟨p, 5, none⟩ x.v) ∧ Has (w.setCell ⟨p, 5, none⟩ x.v) g 103 f 34 := by
  have sc : ∀ k, k ≠ p → (w.setCell ⟨p, 5, none⟩ x.v).heap[k]? = w.heap[k]? := fun k hk => Below.heap_setCell w ⟨p, 5, none⟩ _ k hk
  exact ⟨⟨h.st.sPeers x, h.os.same (fun k hk => sc k (fun e => h.np.1 (e ▸ hk))) (fun k hk => sc k (fun e => h.np.2.1 (e ▸ hk))) (fun k hk => sc k (fun e => h.np.2.2 (e ▸ hk))), h.hp, h.np, h.kp.other _ _ h.nz.1, h.nz⟩, h.bx.other _ _ h.ng.2⟩
theorem nexts_split [Inhabited S.Tbl] (mine others : List Upd) : ∀ (a b : List Upd), nexts mine others (a ++ b) = (nexts mine others a && nexts (mine ++ a) others b)
  | [], b => by simp [nexts]
  | u :: a, b => by
    simp only [List.cons_append, List.nil_append, nexts, nexts_split (mine ++ [u]) others a b, List.append_assoc, Bool.and_assoc]
end
set_option maxRecDepth 100000 in
set_option maxHeartbeats 40000000 in
theorem aCame_any [Inhabited S.Tbl] (x : Int) (ad : Option Addr) (n cap : Nat) (h : Nat → UInt8) (B p z : Nat) (s : St) (lo lp : List Upd) (ls : List Slot) (w : World) (hA : AB B p z s lo lp ls w) (zo : s.ours.n ≤ 140737488351232) (zp : s.peers.n ≤ 2000000000000) (hG : Glob num w) (h2B : 2 ≤ B) (lr : List Upd) (hn : lr.length = n) (h5 : n ≤ 512) (hU : ∀ w', Below B w w' → Upds w' ad lr) : Calls Tryz.prog 160 #[.agg (tabv (Cm.v ⟨x, ⟨ad, n, cap⟩, h⟩) 34), .pointer (some ⟨p, 0, none⟩)] w fun e w' => e = .returned (.bool (cmOk s lo lp x lr)) ∧ Below B w w' ∧ Has w' z 31 St.zero.v 115 ∧ AbIf (cmOk s lo lp x lr) (∃ x9 : Sl, AB B p z ⟨s.side, s.cap, s.bo, s.bp, s.ours, x9, x, s.rem, s.ack, s.ho, ((lp.take s.ap.toNat ++ lr).length : Int), s.so, s.sp, s.ho, s.hp, false, s.p0, s.p1, h, s.shelf, s.fail, s.closed⟩ lo (lp.take s.ap.toNat ++ lr) ls w') := by
  by_cases h1 : x = wrap64 (s.loc + 1)
  · by_cases h2 : s.ap < 0
    · rw [show cmOk s lo lp x lr = false by unfold cmOk; simp [show ¬(0 ≤ s.ap) by omega]]
      obtain ⟨w1, hW1⟩ : ∃ wX, w.alloc (.cells (tabv (Cm.v ⟨x, ⟨ad, n, cap⟩, h⟩) 34) 103) = wX := ⟨_, rfl⟩
      have r1 : Has w1 w.heap.size 103 (Cm.v ⟨x, ⟨ad, n, cap⟩, h⟩) 34 := by rw [← hW1]; exact Has.new w 103 (Cm.v ⟨x, ⟨ad, n, cap⟩, h⟩) 34 _ rfl
      have b1 : Below w.heap.size w w1 := by rw [← hW1]; exact (Below.refl w.heap.size w).alloc (Nat.le_refl _) _
      have A1 := hA.low b1
      have g1 : Below B w w1 := b1.mono hA.size
      have hne : w.heap.size ≠ p := by have := hA.st.lt; omega
      obtain ⟨R, hR⟩ : ∃ R, wrap64 (s.loc + 1) = R := ⟨_, rfl⟩
      have c0 : w1.cell? ⟨w.heap.size, 0, none⟩ = some (.int .i64 x) := r1.cell 0 (by omega)
      have d5 : w1.cell? ⟨p, 5, none⟩ = some (.slice s.peers.ad s.peers.n s.peers.c) := A1.st.cell 5 (by omega)
      have d6 : w1.cell? ⟨p, 6, none⟩ = some (.int .i64 s.loc) := A1.st.cell 6 (by omega)
      have d10 : w1.cell? ⟨p, 10, none⟩ = some (.int .i64 s.ap) := A1.st.cell 10 (by omega)
      have q1 : (x != R) = false := by rw [← hR, h1]; exact bne_self_eq_false _
      have q2 : decide (s.ap < 0) = true := decide_eq_true h2
      clear h1 h2
      go_enter Tryz.func160, Tryz.ntmps160
      go_wp2
      go_quiet (fail)
      have A2 := A1.low (belowD (Below.refl _ _) nq)
      have g2 := belowD g1 nq
      have r2 := r1.below (belowD (Below.refl w1.heap.size w1) nq) r1.lt
      generalize w1.drewN nq = w2 at A2 g2 r2 ⊢
      clear c0 d5 d6 d10 hW1 hR q1 q2
      go_wp2
      go_ret
      exact ⟨rfl, g2, A2.kp, fun e => by cases e⟩
    · by_cases h3 : (s.peers.n : Int) < s.ap
      · rw [show cmOk s lo lp x lr = false by unfold cmOk; rw [hA.os.p.sl.1]; simp [show ¬(s.ap ≤ (s.peers.n : Int)) by omega]]
        obtain ⟨w1, hW1⟩ : ∃ wX, w.alloc (.cells (tabv (Cm.v ⟨x, ⟨ad, n, cap⟩, h⟩) 34) 103) = wX := ⟨_, rfl⟩
        have r1 : Has w1 w.heap.size 103 (Cm.v ⟨x, ⟨ad, n, cap⟩, h⟩) 34 := by rw [← hW1]; exact Has.new w 103 (Cm.v ⟨x, ⟨ad, n, cap⟩, h⟩) 34 _ rfl
        have b1 : Below w.heap.size w w1 := by rw [← hW1]; exact (Below.refl w.heap.size w).alloc (Nat.le_refl _) _
        have A1 := hA.low b1
        have g1 : Below B w w1 := b1.mono hA.size
        have hne : w.heap.size ≠ p := by have := hA.st.lt; omega
        obtain ⟨R, hR⟩ : ∃ R, wrap64 (s.loc + 1) = R := ⟨_, rfl⟩
        have c0 : w1.cell? ⟨w.heap.size, 0, none⟩ = some (.int .i64 x) := r1.cell 0 (by omega)
        have d5 : w1.cell? ⟨p, 5, none⟩ = some (.slice s.peers.ad s.peers.n s.peers.c) := A1.st.cell 5 (by omega)
        have d6 : w1.cell? ⟨p, 6, none⟩ = some (.int .i64 s.loc) := A1.st.cell 6 (by omega)
        have d10 : w1.cell? ⟨p, 10, none⟩ = some (.int .i64 s.ap) := A1.st.cell 10 (by omega)
        have q1 : (x != R) = false := by rw [← hR, h1]; exact bne_self_eq_false _
        have q2 : decide (s.ap < 0) = false := decide_eq_false h2
        have q3 : decide ((s.peers.n : Int) < s.ap) = true := decide_eq_true h3
        clear h1 h2 h3
        go_enter Tryz.func160, Tryz.ntmps160
        go_wp2
        go_quiet (fail)
        have A2 := A1.low (belowD (Below.refl _ _) nq)
        have g2 := belowD g1 nq
        have r2 := r1.below (belowD (Below.refl w1.heap.size w1) nq) r1.lt
        generalize w1.drewN nq = w2 at A2 g2 r2 ⊢
        clear c0 d5 d6 d10 hW1 hR q1 q2 q3
        go_wp2
        go_ret
        exact ⟨rfl, g2, A2.kp, fun e => by cases e⟩
      · obtain ⟨k, hk⟩ : ∃ k : Nat, s.ap = (k : Int) := ⟨s.ap.toNat, by omega⟩
        have hkn : k ≤ s.peers.n := by omega
        have HOK : Hid (cmOk s lo lp x lr = nexts (lp.take k) lo lr) := by
          show _ = _
          unfold cmOk
          rw [hA.os.p.sl.1, hk, Int.toNat_natCast, show (x == wrap64 (s.loc + 1)) = true from beq_iff_eq.2 h1, decide_eq_true (show (0 : Int) ≤ (k : Int) by omega), decide_eq_true (show (k : Int) ≤ (s.peers.n : Int) by omega)]
          rfl
        have HT : Hid (lp.take s.ap.toNat = lp.take k) := by show _ = _; rw [hk, Int.toNat_natCast]
        rw [HOK.out, HT.out]
        obtain ⟨L0, hL0⟩ : ∃ L0, lp.take k = L0 := ⟨_, rfl⟩
        have HL0 := hide hL0
        have hl0 : L0.length = k := by rw [← hL0, List.length_take]; have := hA.os.p.sl.1; omega
        rw [hL0]
        obtain ⟨N, hN⟩ : ∃ N, nexts L0 lo lr = N := ⟨_, rfl⟩
        rw [hN]
        have HNN := hide hN
        have HN := hide hn
        have hkc : k ≤ s.peers.c := by have := hA.os.p.sl; omega
        have HK := hide hk
        clear hN HOK HT hL0 hn
        obtain ⟨w1, hW1⟩ : ∃ wX, w.alloc (.cells (tabv (Cm.v ⟨x, ⟨ad, n, cap⟩, h⟩) 34) 103) = wX := ⟨_, rfl⟩
        have r1 : Has w1 w.heap.size 103 (Cm.v ⟨x, ⟨ad, n, cap⟩, h⟩) 34 := by rw [← hW1]; exact Has.new w 103 (Cm.v ⟨x, ⟨ad, n, cap⟩, h⟩) 34 _ rfl
        have b1 : Below w.heap.size w w1 := by rw [← hW1]; exact (Below.refl w.heap.size w).alloc (Nat.le_refl _) _
        have A1 := hA.low b1
        have g1 : Below B w w1 := b1.mono hA.size
        have hne : w.heap.size ≠ p := by have := hA.st.lt; omega
        obtain ⟨R, hR⟩ : ∃ R, wrap64 (s.loc + 1) = R := ⟨_, rfl⟩
        have c0 : w1.cell? ⟨w.heap.size, 0, none⟩ = some (.int .i64 x) := r1.cell 0 (by omega)
        have d5 : w1.cell? ⟨p, 5, none⟩ = some (.slice s.peers.ad s.peers.n s.peers.c) := A1.st.cell 5 (by omega)
        have d6 : w1.cell? ⟨p, 6, none⟩ = some (.int .i64 s.loc) := A1.st.cell 6 (by omega)
        have d10 : w1.cell? ⟨p, 10, none⟩ = some (.int .i64 s.ap) := A1.st.cell 10 (by omega)
        have q1 : (x != R) = false := by rw [← hR, h1]; exact bne_self_eq_false _
        have q2 : decide (s.ap < 0) = false := decide_eq_false h2
        have q3 : decide ((s.peers.n : Int) < s.ap) = false := decide_eq_false h3
        clear h1 h2 h3 hk
        go_enter Tryz.func160, Tryz.ntmps160
        go_wp2
        go_quiet (fail)
        have A2 := A1.low (belowD (Below.refl _ _) nq)
        have g2 := belowD g1 nq
        have r2 := r1.below (belowD (Below.refl w1.heap.size w1) nq) r1.lt
        generalize w1.drewN nq = w2 at A2 g2 r2 ⊢
        clear c0 d5 d6 d10 hW1 hR q1 q2 q3
        go_wp2
        have d5 : w2.cell? ⟨p, 5, none⟩ = some (.slice s.peers.ad s.peers.n s.peers.c) := A2.st.cell 5 (by omega)
        have SK := hide (fun w => sliceK w s.peers.ad s.peers.n s.peers.c k hkc)
        clear d5
        refine wp_region_noPanic ?_
        refine wp_region_held_drew (S := fun wx => Below w2.heap.size w2 wx) (by kernel_rfl) ((Below.refl _ _).drew) (fun hHeld => ?_)
        generalize hwd : World.drew w2 = wd at hHeld ⊢
        refine Cu.takeH 0 (some 37) (.pointer (some ⟨p, 0, none⟩)) rfl rfl (by kernel_rfl) (by kernel_rfl) (by kernel_rfl) (fun _ _ _ h => h) (by rfl) (fun w_ hw => by first | rfl | (go_simp; done) | (go_simp; rfl) | (go_simp; omega)) hHeld ?_
        simp only [Act.put, List.setIfInBounds_toArray, List.set_cons_zero, List.set_cons_succ]
        refine Cu.takeH 1 (some 38) (.pointer (some ⟨p, 0, none⟩)) rfl rfl (by kernel_rfl) (by kernel_rfl) (by kernel_rfl) (fun _ _ _ h => h) (by rfl) (fun w_ hw => by first | rfl | (go_simp; done) | (go_simp; rfl) | (go_simp; omega)) hHeld ?_
        simp only [Act.put, List.setIfInBounds_toArray, List.set_cons_zero, List.set_cons_succ]
        refine Cu.takeH 2 (some 39) (.pointer (some ⟨p, 5, none⟩)) rfl rfl (by kernel_rfl) (by kernel_rfl) (by kernel_rfl) (fun _ _ _ h => h) (by rfl) (fun w_ hw => by first | rfl | (go_simp; done) | (go_simp; rfl) | (go_simp; omega)) hHeld ?_
        simp only [Act.put, List.setIfInBounds_toArray, List.set_cons_zero, List.set_cons_succ]
        refine Cu.takeH 3 (some 40) (.slice s.peers.ad s.peers.n s.peers.c) rfl rfl (by kernel_rfl) (by kernel_rfl) (by kernel_rfl) (fun _ _ _ h => h) (by rfl) (fun w_ hw => by have c : World.cell? _ ⟨p, 5, none⟩ = some (.slice s.peers.ad s.peers.n s.peers.c) := (A2.low hw).st.cell 5 (by omega); first | rfl | (go_simp; done) | (go_simp; rfl) | (go_simp; omega)) hHeld ?_
        simp only [Act.put, List.setIfInBounds_toArray, List.set_cons_zero, List.set_cons_succ]
        refine Cu.takeH 4 (some 41) (.pointer (some ⟨p, 0, none⟩)) rfl rfl (by kernel_rfl) (by kernel_rfl) (by kernel_rfl) (fun _ _ _ h => h) (by rfl) (fun w_ hw => by first | rfl | (go_simp; done) | (go_simp; rfl) | (go_simp; omega)) hHeld ?_
        simp only [Act.put, List.setIfInBounds_toArray, List.set_cons_zero, List.set_cons_succ]
        refine Cu.takeH 5 (some 42) (.pointer (some ⟨p, 0, none⟩)) rfl rfl (by kernel_rfl) (by kernel_rfl) (by kernel_rfl) (fun _ _ _ h => h) (by rfl) (fun w_ hw => by first | rfl | (go_simp; done) | (go_simp; rfl) | (go_simp; omega)) hHeld ?_
        simp only [Act.put, List.setIfInBounds_toArray, List.set_cons_zero, List.set_cons_succ]
        refine Cu.takeH 6 (some 43) (.pointer (some ⟨p, 9, none⟩)) rfl rfl (by kernel_rfl) (by kernel_rfl) (by kernel_rfl) (fun _ _ _ h => h) (by rfl) (fun w_ hw => by first | rfl | (go_simp; done) | (go_simp; rfl) | (go_simp; omega)) hHeld ?_
        simp only [Act.put, List.setIfInBounds_toArray, List.set_cons_zero, List.set_cons_succ]
        refine Cu.takeH 7 (some 44) (.pointer (some ⟨p, 10, none⟩)) rfl rfl (by kernel_rfl) (by kernel_rfl) (by kernel_rfl) (fun _ _ _ h => h) (by rfl) (fun w_ hw => by first | rfl | (go_simp; done) | (go_simp; rfl) | (go_simp; omega)) hHeld ?_
        simp only [Act.put, List.setIfInBounds_toArray, List.set_cons_zero, List.set_cons_succ]
        refine Cu.takeH 8 (some 45) (.int .i64 (k : Int)) rfl rfl (by kernel_rfl) (by kernel_rfl) (by kernel_rfl) (fun _ _ _ h => h) (by rfl) (fun w_ hw => by have c : World.cell? w_ ⟨p, 10, none⟩ = some (.int .i64 (k : Int)) := (by rw [← HK.out]; exact (A2.low hw).st.cell 10 (by omega)); first | rfl | (go_simp; done) | (go_simp; rfl) | (go_simp; omega)) hHeld ?_
        simp only [Act.put, List.setIfInBounds_toArray, List.set_cons_zero, List.set_cons_succ]
        refine Cu.takeH 9 (some 46) (.slice s.peers.ad k s.peers.c) rfl rfl (by kernel_rfl) (by kernel_rfl) (by kernel_rfl) (fun _ _ _ h => h) (by rfl) (fun w_ hw => by have c := SK.out w_; first | rfl | (go_simp; done) | (go_simp; rfl) | (go_simp; omega)) hHeld ?_
        simp only [Act.put, List.setIfInBounds_toArray, List.set_cons_zero, List.set_cons_succ]
        refine Cu.takeH 10 (some 5) (.slice s.peers.ad k s.peers.c) rfl rfl (by kernel_rfl) (by kernel_rfl) (by kernel_rfl) (fun _ _ _ h => h) (by rfl) (fun w_ hw => by first | rfl | (go_simp; done) | (go_simp; rfl) | (go_simp; omega)) hHeld ?_
        simp only [Act.put, List.setIfInBounds_toArray, List.set_cons_zero, List.set_cons_succ]
        refine ⟨by kernel_rfl, ?_⟩
        refine NoPanic.normal ?_
        have A3 := A2.low hHeld
        have r3 := r2.below hHeld r2.lt
        have g3 : Below B w wd := g2.trans (hHeld.mono A2.size)
        clear hHeld hwd A2 r2 g2 A1 r1 g1 SK
        have PT := OwnU.part A3.os.p k hkn
        rw [HL0.out] at PT
        have C3 : CL B p z w.heap.size (Cm.v ⟨x, ⟨ad, n, cap⟩, h⟩) s ⟨s.peers.ad, k, s.peers.c⟩ lo L0 ls wd := by
          refine ⟨A3.st, r3, ⟨A3.os.o, PT.1, A3.os.f, fun j hj e => A3.os.op j hj (PT.2.symm.trans e), A3.os.os, fun j hj e => A3.os.ps j (PT.2.symm.trans hj) e⟩, hA.hp, ⟨A3.np.1, fun e => A3.np.2.1 (PT.2.symm.trans e), A3.np.2.2⟩, ⟨fun e => ?_, hne⟩, A3.kp, A3.nz.1, A3.nz.2.1, fun e => A3.nz.2.2.1 (PT.2.symm.trans e), A3.nz.2.2.2⟩
          have := (hA.os.p.lt _ (PT.2.symm.trans e)).2
          omega
        have e1 : wd.cell? ⟨w.heap.size, 1, none⟩ = some (.slice ad n cap) := r3.cell 1 (by omega)
        clear A3 r3 PT
        go_wp2
        go_loopw [50, 5] (fun i v wr => ∃ (j : Nat) (y : Sl), j ≤ n ∧ i = .int .i64 (j : Int) ∧ v = .slice y.ad y.n y.c ∧ Hid (CL B p z w.heap.size (Cm.v ⟨x, ⟨ad, n, cap⟩, h⟩) s y lo (L0 ++ lr.take j) ls wr) ∧ Hid (Below B w wr) ∧ Hid (N = nexts (L0 ++ lr.take j) lo (lr.drop j))) (fun i _ _ => n - (intOf i).toNat)
        case atStart => exact ⟨0, ⟨s.peers.ad, k, s.peers.c⟩, Nat.zero_le _, rfl, rfl, (by show CL _ _ _ _ _ _ _ _ _ _ _; simpa using C3), g3, (by show _ = _; rw [← HNN.out]; simp)⟩
        case round =>
          clear e1 C3 g3
          obtain ⟨j, y, hj, rfl, rfl, CJ, GJ, NJ⟩ := hrel
          by_cases hlt : j < n
          · have hd : decide ((j : Int) < (n : Int)) = true := decide_eq_true (by omega)
            have hd2 : decide (j < n) = true := decide_eq_true hlt
            have hk0 : (0 : Int) ≤ (j : Int) := by omega
            have hk1 : (j : Int) < (n : Int) := by omega
            obtain ⟨u, hu⟩ : ∃ u, lr[j]? = some u := ⟨_, List.getElem?_eq_getElem (by rw [HN.out]; exact hlt)⟩
            obtain ⟨b, o, rfl, hb1, hUa⟩ := (hU wr GJ.out).get j u hu
            have HU := hide hu
            have hLl : (L0 ++ lr.take j).length = k + j := by rw [List.length_append, List.length_take, hl0, HN.out]; omega
            have NJ2 : Hid (N = ((nextA (L0 ++ lr.take j) lo u == 0) && nexts (L0 ++ lr.take (j + 1)) lo (lr.drop (j + 1)))) := by
              show _ = _
              rw [NJ.out, List.drop_eq_getElem_cons (show j < lr.length by rw [HN.out]; exact hlt)]
              have : lr[j]'(by rw [HN.out]; exact hlt) = u := by have := hu; rw [List.getElem?_eq_getElem (by rw [HN.out]; exact hlt)] at this; exact Option.some.inj this
              rw [this]
              show ((nextA _ lo u == 0) && nexts ((L0 ++ lr.take j) ++ [u]) lo _) = _
              rw [List.append_assoc, ← take_snoc hu]
            obtain ⟨LJ, hLJ⟩ : ∃ LJ, L0 ++ lr.take j = LJ := ⟨_, rfl⟩
            have HLJ : Hid (L0 ++ lr.take (j + 1) = LJ ++ [u]) := by show _ = _; rw [take_snoc hu, ← List.append_assoc, hLJ]
            rw [hLJ] at CJ hLl NJ2
            obtain ⟨R, hR⟩ : ∃ R, nextA LJ lo u = R := ⟨_, rfl⟩
            have HA := hide hUa
            obtain ⟨w6, w7, hW6, q6, hW7, q7, b7, b6⟩ := newU2 wr u
            have Q6 := hide q6
            have C7 := CJ.out.low b7
            have G7 : Below B w w7 := GJ.out.trans (b7.mono CJ.out.size)
            have gu := q7.lt
            have yl : LJ.length = y.n := C7.os.p.sl.1
            have yz : y.n ≤ 140737488351232 := by omega
            have HNX := hide (fun (wx : World) (hb : Below w7.heap.size w7 wx) => next_any num y.ad s.ours.ad y.n s.ours.n y.c s.ours.c LJ lo yl C7.os.o.sl.1 yz zo u wx (hG.below (G7.trans (hb.mono C7.size)) h2B) (C7.low hb).os.p.sl.2.1 (C7.low hb).os.o.sl.2.1)
            rw [hR] at HNX
            clear hu hUa hb1 b7 b6 q6 CJ GJ NJ hLJ
            go_upto_region 7 with (first | rw [hW7] | refine wpW_load_at 36 _ rfl (b) (o + j * 36) (by rfl) (by rfl) _ 36 _ (HA.out) Tryz.underlying36 rfl infoU ?_ | refine wpList_storeU rfl _ _ rfl rfl (wr.heap.size) (u) rfl rfl _ Q6.out ?_ | fail)
            try rw [hW7]
            generalize hgu : wr.heap.size = gu0 at q7 ⊢
            clear hgu
            refine wp_region_noPanic ?_
            refine wp_region_held_drew (S := fun wx => Below w7.heap.size w7 wx) (by kernel_rfl) ((Below.refl _ _).drew) (fun hHeld => ?_)
            generalize hwd2 : World.drew w7 = wd2 at hHeld ⊢
            refine Cu.takeH 0 (some 54) (.slice y.ad y.n y.c) rfl rfl (by kernel_rfl) (by kernel_rfl) (by kernel_rfl) (fun _ _ _ h => h) (by rfl) (fun w_ hw => by first | rfl | (go_simp; done) | (go_simp; rfl) | (go_simp; omega)) hHeld ?_
            simp only [Act.put, List.setIfInBounds_toArray, List.set_cons_zero, List.set_cons_succ]
            refine Cu.takeH 1 (some 55) (.pointer (some ⟨p, 0, none⟩)) rfl rfl (by kernel_rfl) (by kernel_rfl) (by kernel_rfl) (fun _ _ _ h => h) (by rfl) (fun w_ hw => by first | rfl | (go_simp; done) | (go_simp; rfl) | (go_simp; omega)) hHeld ?_
            simp only [Act.put, List.setIfInBounds_toArray, List.set_cons_zero, List.set_cons_succ]
            refine Cu.takeH 2 (some 56) (.pointer (some ⟨p, 0, none⟩)) rfl rfl (by kernel_rfl) (by kernel_rfl) (by kernel_rfl) (fun _ _ _ h => h) (by rfl) (fun w_ hw => by first | rfl | (go_simp; done) | (go_simp; rfl) | (go_simp; omega)) hHeld ?_
            simp only [Act.put, List.setIfInBounds_toArray, List.set_cons_zero, List.set_cons_succ]
            refine Cu.takeH 3 (some 57) (.pointer (some ⟨p, 4, none⟩)) rfl rfl (by kernel_rfl) (by kernel_rfl) (by kernel_rfl) (fun _ _ _ h => h) (by rfl) (fun w_ hw => by first | rfl | (go_simp; done) | (go_simp; rfl) | (go_simp; omega)) hHeld ?_
            simp only [Act.put, List.setIfInBounds_toArray, List.set_cons_zero, List.set_cons_succ]
            refine Cu.takeH 4 (some 58) (.slice s.ours.ad s.ours.n s.ours.c) rfl rfl (by kernel_rfl) (by kernel_rfl) (by kernel_rfl) (fun _ _ _ h => h) (by rfl) (fun w_ hw => by have c : World.cell? _ ⟨p, 4, none⟩ = some (.slice s.ours.ad s.ours.n s.ours.c) := (C7.low hw).st.cell 4 (by omega); first | rfl | (go_simp; done) | (go_simp; rfl) | (go_simp; omega)) hHeld ?_
            simp only [Act.put, List.setIfInBounds_toArray, List.set_cons_zero, List.set_cons_succ]
            refine Cu.takeH 5 (some 59) (.agg (tabv u.v 36)) rfl rfl (by kernel_rfl) (by kernel_rfl) (by kernel_rfl) (fun _ _ _ h => h) (by rfl) (fun w_ hw => run_load_at w_ 36 _ rfl (gu0) 0 (by rfl) _ 36 _ ((q7.below hw q7.lt).at_ 0 (by omega) (fun i hi => by rw [Nat.zero_add])) Tryz.underlying36 rfl infoU) hHeld ?_
            simp only [Act.put, List.setIfInBounds_toArray, List.set_cons_zero, List.set_cons_succ]
            refine wpAnyH_ready (rs := [6]) (by kernel_rfl) (by simp) (AllReadyH.cons rfl (fun K hK => ?_) AllReadyH.nil)
            rw [if_pos (by rfl)]
            go_simp
            refine (HNX.out _ hHeld).mono ?_
            rintro e wf ⟨rfl, hbq⟩
            try go_wp2_with fail
            refine hK.out _ _ (hHeld.trans (hbq.mono hHeld.size)) (fun hH => ?_)
            clear hK K hHeld
            have hHeld := hH
            clear hH
            refine Cu.takeH 7 (some 61) (.bool (R != 0)) rfl rfl (by kernel_rfl) (by kernel_rfl) (by kernel_rfl) (fun _ _ _ h => h) (by rfl) (fun w_ hw => by first | rfl | (go_simp; done) | (go_simp; rfl) | (go_simp; omega)) hHeld ?_
            simp only [Act.put, List.setIfInBounds_toArray, List.set_cons_zero, List.set_cons_succ]
            refine ⟨by kernel_rfl, ?_⟩
            refine NoPanic.normal ?_
            have C8 := C7.low hHeld
            have q8 := q7.below hHeld q7.lt
            have G8 : Below B w wf := G7.trans (hHeld.mono C7.size)
            clear hHeld HNX hwd2 C7 q7 G7
            by_cases hR0 : R = 0
            · have hq : (R != 0) = false := by rw [hR0]; rfl
              have hlen : LJ.length < 2048 := by
                rw [hR0] at hR
                unfold nextA at hR
                by_cases h2 : 2048 ≤ LJ.length
                · rw [if_pos h2] at hR; cases hR
                · omega
              obtain ⟨v9, w8, w9, RS, RA, O9, gr9, bl9, own9, hw8⟩ := appU_at wf B y.v LJ u C8.os.p (by omega) C8.size
              obtain ⟨x9, rfl⟩ := slOf O9
              have C9 := C8.app O9 gr9 own9
              have G9 : Below B w w9 := G8.trans bl9
              have RSH := hide RS
              have RAH : Hid ((Builtin.append_ #[27, 27] 27 #[.slice y.ad y.n y.c, .slice (some ⟨wf.heap.size, 0, none⟩) 1 1]).run Tryz.prog w8 = .ok (.slice x9.ad x9.n x9.c) w9) := RA
              have Q8 := hide q8
              have NJ3 : Hid (N = nexts (LJ ++ [u]) lo (lr.drop (j + 1))) := by show _ = _; rw [NJ2.out, hR, hR0, HLJ.out]; rfl
              clear RS RA O9 gr9 bl9 own9 hw8 hR hR0 NJ2
              go_wp2_with (first | refine wpW_load_at 36 _ rfl (gu0) (0) (by rfl) (by rfl) _ 36 _ (Q8.out.at_ 0 (by omega) (fun i hi => by rw [Nat.zero_add])) Tryz.underlying36 rfl infoU ?_ | refine wpList_slice1 rfl 27 _ rfl (.agg (tabv u.v 36)) rfl RSH.out ?_ | refine wpList_app rfl _ _ _ rfl RAH.out ?_ | fail)
              go_roundw
              case rel => exact ⟨j + 1, x9, by omega, by go_num, rfl, (by show CL _ _ _ _ _ _ _ _ _ _ _; rw [HLJ.out]; exact C9), G9, (by show _ = _; rw [HLJ.out]; exact NJ3.out)⟩
              case measure => simp [intOf]; omega
            · have hq : (R != 0) = true := bne_iff_ne.2 hR0
              have HE : Hid (N = false) := by show _ = _; rw [NJ2.out, hR, show (R == 0) = false from beq_false_of_ne hR0]; rfl
              clear hR hR0 NJ2
              go_wp2
              go_ret
              exact ⟨by rw [HE.out]; rfl, G8, C8.kp, fun e => by rw [HE.out] at e; cases e⟩
          · obtain rfl : n = j := by omega
            have hd : decide ((n : Int) < (n : Int)) = false := by simp
            have hfull : lr.take n = lr := List.take_of_length_le (by rw [HN.out]; exact Nat.le_refl _)
            have HE : Hid (N = true) := by show _ = _; rw [NJ.out, List.drop_of_length_le (by rw [HN.out]; exact Nat.le_refl _)]; rfl
            have C9 : CL B p z w.heap.size (Cm.v ⟨x, ⟨ad, n, cap⟩, h⟩) s y lo (L0 ++ lr) ls wr := by have := CJ.out; rw [hfull] at this; exact this
            have yl : (L0 ++ lr).length = y.n := C9.os.p.sl.1
            obtain ⟨A1', r1'⟩ := C9.fin
            have c5 : wr.cell? ⟨p, 5, none⟩ = some (.slice s.peers.ad s.peers.n s.peers.c) := C9.st.cell 5 (by omega)
            have f5 := C9.st.frozen 5
            have G9 := GJ.out
            obtain ⟨u1, hU1⟩ : ∃ zz, wr.setCell ⟨p, 5, none⟩ (.slice y.ad y.n y.c) = zz := ⟨_, rfl⟩
            have hU1' : wr.setCell ⟨p, 5, none⟩ y.v = u1 := hU1
            rw [hU1'] at A1' r1'
            have A1' : AB B p z ⟨s.side, s.cap, s.bo, s.bp, s.ours, y, s.loc, s.rem, s.ack, s.ao, s.ap, s.so, s.sp, s.ho, s.hp, s.beh, s.p0, s.p1, s.sig, s.shelf, s.fail, s.closed⟩ lo (L0 ++ lr) ls u1 := A1'
            have G1 : Below B w u1 := by rw [← hU1]; exact G9.setCell hA.hp _
            obtain ⟨u2, hU2⟩ : ∃ zz, u1.setCell ⟨p, 6, none⟩ (.int .i64 x) = zz := ⟨_, rfl⟩
            have A2' : AB B p z ⟨s.side, s.cap, s.bo, s.bp, s.ours, y, x, s.rem, s.ack, s.ao, s.ap, s.so, s.sp, s.ho, s.hp, s.beh, s.p0, s.p1, s.sig, s.shelf, s.fail, s.closed⟩ lo (L0 ++ lr) ls u2 := by rw [← hU2]; exact A1'.cell 6 _ (A1'.st.sLoc x) rfl rfl rfl
            have r2' : Has u2 w.heap.size 103 (Cm.v ⟨x, ⟨ad, n, cap⟩, h⟩) 34 := by rw [← hU2]; exact r1'.other _ _ hne
            have G2 : Below B w u2 := by rw [← hU2]; exact G1.setCell hA.hp _
            obtain ⟨u3, hU3⟩ : ∃ zz, u2.setRow p (tabv (St.v ⟨s.side, s.cap, s.bo, s.bp, s.ours, y, x, s.rem, s.ack, s.ao, s.ap, s.so, s.sp, s.ho, s.hp, s.beh, s.p0, s.p1, h, s.shelf, s.fail, s.closed⟩) 115) = zz := ⟨_, rfl⟩
            have A3' : AB B p z ⟨s.side, s.cap, s.bo, s.bp, s.ours, y, x, s.rem, s.ack, s.ao, s.ap, s.so, s.sp, s.ho, s.hp, s.beh, s.p0, s.p1, h, s.shelf, s.fail, s.closed⟩ lo (L0 ++ lr) ls u3 := by rw [← hU3]; exact A2'.row rfl rfl rfl
            have G3 : Below B w u3 := by rw [← hU3]; exact below_setRow G2 hA.hp _
            obtain ⟨u4, hU4⟩ : ∃ zz, u3.setRow p (tabv (St.v ⟨s.side, s.cap, s.bo, s.bp, s.ours, y, x, s.rem, s.ack, s.ho, (y.n : Int), s.so, s.sp, s.ho, s.hp, s.beh, s.p0, s.p1, h, s.shelf, s.fail, s.closed⟩) 115) = zz := ⟨_, rfl⟩
            have A4' : AB B p z ⟨s.side, s.cap, s.bo, s.bp, s.ours, y, x, s.rem, s.ack, s.ho, (y.n : Int), s.so, s.sp, s.ho, s.hp, s.beh, s.p0, s.p1, h, s.shelf, s.fail, s.closed⟩ lo (L0 ++ lr) ls u4 := by rw [← hU4]; exact A3'.row rfl rfl rfl
            have G4 : Below B w u4 := by rw [← hU4]; exact below_setRow G3 hA.hp _
            obtain ⟨u5, hU5⟩ : ∃ zz, u4.setCell ⟨p, 15, none⟩ (.bool false) = zz := ⟨_, rfl⟩
            have A5' : AB B p z ⟨s.side, s.cap, s.bo, s.bp, s.ours, y, x, s.rem, s.ack, s.ho, (y.n : Int), s.so, s.sp, s.ho, s.hp, false, s.p0, s.p1, h, s.shelf, s.fail, s.closed⟩ lo (L0 ++ lr) ls u5 := by rw [← hU5]; exact A4'.cell 15 _ (A4'.st.sBeh false) rfl rfl rfl
            have G5 : Below B w u5 := by rw [← hU5]; exact G4.setCell hA.hp _
            have k0 : u1.cell? ⟨w.heap.size, 0, none⟩ = some (.int .i64 x) := r1'.cell 0 (by omega)
            have k6 : u1.cell? ⟨p, 6, none⟩ = some (.int .i64 s.loc) := A1'.st.cell 6 (by omega)
            have f6 := A1'.st.frozen 6
            have aH : Hid (At u2 w.heap.size 2 (bv h) 32) := fun i hi => by rw [r2'.cell (2 + i) (by omega)]; exact congrArg some (Cm.v_h _ i hi)
            have H2 := hide A2'.st
            have H3 := hide A3'.st
            have k13 : u3.cell? ⟨p, 13, none⟩ = some (.int .i64 s.ho) := A3'.st.cell 13 (by omega)
            have k15 : u4.cell? ⟨p, 15, none⟩ = some (.bool s.beh) := A4'.st.cell 15 (by omega)
            have f15 := A4'.st.frozen 15
            clear C9 CJ GJ NJ hfull
            go_wp2_with (first | rw [hU1] | rw [hU2] | rw [hU3] | rw [hU4] | rw [hU5] | refine wpW_load_at 25 _ rfl (w.heap.size) (2) (by rfl) (by rfl) _ 32 _ (aH.out) Tryz.underlying25 rfl info26 ?_ | refine wpList_store_part rfl 25 _ _ rfl rfl p 80 (bv h) 32 rfl rfl 31 _ 115 H2.out (by omega) info26 (fun i _ => rfl) _ (splice_sSig _ h) ?_ | refine wpW_build (by rfl) 23 #[(0, .tmp 86), (1, .tmp 88)] rfl [(0, .int .i64 s.ho), (1, .int .i64 (y.n : Int))] (by first | rfl | (simp [Act.eval, Act.put]; done)) _ (builtC s.ho (y.n : Int)) ?_ | refine wpList_store_part rfl 23 _ _ rfl rfl p 9 (ctv s.ho (y.n : Int)) 2 rfl rfl 31 _ 115 H3.out (by omega) infoC (fun i _ => oneC2 _ _ i) _ (splice_cAt _ s.ho (y.n : Int)) ?_ | fail)
            try rw [hU5]
            go_ret
            exact ⟨by rw [HE.out]; rfl, G5, A5'.kp, fun _ => ⟨y, by rw [yl]; exact A5'⟩⟩
  · rw [show cmOk s lo lp x lr = false by unfold cmOk; simp [h1]]
    obtain ⟨w1, hW1⟩ : ∃ wX, w.alloc (.cells (tabv (Cm.v ⟨x, ⟨ad, n, cap⟩, h⟩) 34) 103) = wX := ⟨_, rfl⟩
    have r1 : Has w1 w.heap.size 103 (Cm.v ⟨x, ⟨ad, n, cap⟩, h⟩) 34 := by rw [← hW1]; exact Has.new w 103 (Cm.v ⟨x, ⟨ad, n, cap⟩, h⟩) 34 _ rfl
    have b1 : Below w.heap.size w w1 := by rw [← hW1]; exact (Below.refl w.heap.size w).alloc (Nat.le_refl _) _
    have A1 := hA.low b1
    have g1 : Below B w w1 := b1.mono hA.size
    have hne : w.heap.size ≠ p := by have := hA.st.lt; omega
    obtain ⟨R, hR⟩ : ∃ R, wrap64 (s.loc + 1) = R := ⟨_, rfl⟩
    have c0 : w1.cell? ⟨w.heap.size, 0, none⟩ = some (.int .i64 x) := r1.cell 0 (by omega)
    have d5 : w1.cell? ⟨p, 5, none⟩ = some (.slice s.peers.ad s.peers.n s.peers.c) := A1.st.cell 5 (by omega)
    have d6 : w1.cell? ⟨p, 6, none⟩ = some (.int .i64 s.loc) := A1.st.cell 6 (by omega)
    have d10 : w1.cell? ⟨p, 10, none⟩ = some (.int .i64 s.ap) := A1.st.cell 10 (by omega)
    have q1 : (x != R) = true := by rw [← hR]; exact bne_iff_ne.2 h1
    clear h1
    go_enter Tryz.func160, Tryz.ntmps160
    go_wp2
    go_quiet (fail)
    have A2 := A1.low (belowD (Below.refl _ _) nq)
    have g2 := belowD g1 nq
    have r2 := r1.below (belowD (Below.refl w1.heap.size w1) nq) r1.lt
    generalize w1.drewN nq = w2 at A2 g2 r2 ⊢
    clear c0 d5 d6 d10 hW1 hR q1
    go_wp2
    go_ret
    exact ⟨rfl, g2, A2.kp, fun e => by cases e⟩
end Go.Proofs.YtlohfoggcdaeiaaGreat
