/-
  What each kind of record makes of a state (printed by gen_r8.py).
-/
import Derived.Test.YtlohfoggcdaeiaaGreatRState
import Derived.Test.YtlohfoggcdaeiaaGreatLast
import Derived.BigQuiet
import Derived.Deep.QuietTactic
namespace Go.Proofs.YtlohfoggcdaeiaaGreat
open Go.RowKit S
set_option linter.unusedVariables false
set_option linter.unusedSimpArgs false
open Cu (nb be hl ofL CW Mw CR Mr RS takeS takeA hOf nil8 num doneS)
/-- A state at p, its lists in memory of their own. -/
structure AB (B p z : Nat) (s : St) (lo lp : List Upd) (ls : List Slot) (w : World) : Prop where
  st : Has w p 31 s.v 115
  os : OS B w s lo lp ls
  hp : B ≤ p
  np : s.ours.v.ownBlock ≠ some p ∧ s.peers.v.ownBlock ≠ some p ∧ s.shelf.v.ownBlock ≠ some p
  kp : Has w z 31 St.zero.v 115
  nz : z ≠ p ∧ s.ours.v.ownBlock ≠ some z ∧ s.peers.v.ownBlock ≠ some z ∧ s.shelf.v.ownBlock ≠ some z
section
variable {B p z : Nat} {s s' : St} {lo lp : List Upd} {ls : List Slot} {w w' : World}
theorem AB.size (h : AB B p z s lo lp ls w) : B ≤ w.heap.size := by have := h.st.lt; have := h.hp; omega
theorem AB.low (h : AB B p z s lo lp ls w) (hb : Below w.heap.size w w') : AB B p z s lo lp ls w' := ⟨h.st.below hb h.st.lt, h.os.below hb, h.hp, h.np, h.kp.below hb h.kp.lt, h.nz⟩
theorem AB.upd (h : AB B p z s lo lp ls w) (hs : Has w' p 31 s'.v 115) (he : ∀ k, k ≠ p → w'.heap[k]? = w.heap[k]?) (e1 : s'.ours = s.ours) (e2 : s'.peers = s.peers) (e3 : s'.shelf = s.shelf) : AB B p z s' lo lp ls w' :=
  ⟨hs, (h.os.same (fun k hk => he k (fun e => h.np.1 (e ▸ hk))) (fun k hk => he k (fun e => h.np.2.1 (e ▸ hk))) (fun k hk => he k (fun e => h.np.2.2 (e ▸ hk)))).sl e1 e2 e3, h.hp, by rw [e1, e2, e3]; exact h.np, h.kp.same (he z h.nz.1), by rw [e1, e2, e3]; exact h.nz⟩
theorem AB.cell (h : AB B p z s lo lp ls w) (i : Nat) (v : Value) (hs : Has (w.setCell ⟨p, i, none⟩ v) p 31 s'.v 115) (e1 : s'.ours = s.ours) (e2 : s'.peers = s.peers) (e3 : s'.shelf = s.shelf) : AB B p z s' lo lp ls (w.setCell ⟨p, i, none⟩ v) :=
  h.upd hs (fun k hk => Below.heap_setCell w ⟨p, i, none⟩ v k hk) e1 e2 e3
theorem AB.row (h : AB B p z s lo lp ls w) (e1 : s'.ours = s.ours) (e2 : s'.peers = s.peers) (e3 : s'.shelf = s.shelf) : AB B p z s' lo lp ls (w.setRow p (tabv s'.v 115)) :=
  h.upd (h.st.row _ s'.v rfl) (fun k hk => setRow_other w p k _ hk) e1 e2 e3
end
set_option maxRecDepth 100000 in
set_option maxHeartbeats 40000000 in
theorem aClosed_no (x : Int) (B p z : Nat) (s : St) (lo lp : List Upd) (ls : List Slot) (w : World) (hA : AB B p z s lo lp ls w) (h : x ≠ s.loc) : Calls Tryz.prog 181 #[.agg #[.int .i64 x], .pointer (some ⟨p, 0, none⟩)] w fun e w' => e = .returned (.bool false) ∧ Below B w w' ∧ Has w' z 31 St.zero.v 115 := by
  obtain ⟨w1, hW1⟩ : ∃ wX, w.alloc (.cells (tabv (fun _ => .int .i64 x) 1) 109) = wX := ⟨_, rfl⟩
  have r1 : Has w1 w.heap.size 109 (fun _ => .int .i64 x) 1 := by rw [← hW1]; exact Has.new w 109 (fun _ => .int .i64 x) 1 _ rfl
  have b1 : Below w.heap.size w w1 := by rw [← hW1]; exact (Below.refl w.heap.size w).alloc (Nat.le_refl _) _
  have A1 := hA.low b1
  have g1 : Below B w w1 := b1.mono hA.size
  have hne : w.heap.size ≠ p := by have := hA.st.lt; omega
  have hW1 : w.alloc (.cells #[.int .i64 x] 109) = w1 := hW1
  have c0 : w1.cell? ⟨w.heap.size, 0, none⟩ = some (.int .i64 x) := r1.cell 0 (by omega)
  have c1 : w1.cell? ⟨p, 6, none⟩ = some (.int .i64 s.loc) := A1.st.cell 6 (by omega)
  have hx : (x != s.loc) = true := bne_iff_ne.2 h
  go_enter Tryz.func181, Tryz.ntmps181
  go_wp2
  go_quiet (fail)
  go_wp2
  go_ret
  exact ⟨rfl, belowD g1 _, (A1.low (belowD (Below.refl _ _) _)).kp⟩
set_option maxRecDepth 100000 in
set_option maxHeartbeats 40000000 in
theorem aClosed_yes (x : Int) (B p z : Nat) (s : St) (lo lp : List Upd) (ls : List Slot) (w : World) (hA : AB B p z s lo lp ls w) (h : x = s.loc) : Calls Tryz.prog 181 #[.agg #[.int .i64 x], .pointer (some ⟨p, 0, none⟩)] w fun e w' => e = .returned (.bool true) ∧ Below B w w' ∧ AB B p z ⟨s.side, s.cap, s.bo, s.bp, s.ours, s.peers, s.loc, s.rem, s.ack, s.ao, s.ap, s.so, s.sp, s.ho, s.hp, s.beh, s.p0, s.p1, s.sig, s.shelf, s.fail, x⟩ lo lp ls w' := by
  subst h
  obtain ⟨w1, hW1⟩ : ∃ wX, w.alloc (.cells (tabv (fun _ => .int .i64 s.loc) 1) 109) = wX := ⟨_, rfl⟩
  have r1 : Has w1 w.heap.size 109 (fun _ => .int .i64 s.loc) 1 := by rw [← hW1]; exact Has.new w 109 (fun _ => .int .i64 s.loc) 1 _ rfl
  have b1 : Below w.heap.size w w1 := by rw [← hW1]; exact (Below.refl w.heap.size w).alloc (Nat.le_refl _) _
  have A1 := hA.low b1
  have g1 : Below B w w1 := b1.mono hA.size
  have hne : w.heap.size ≠ p := by have := hA.st.lt; omega
  have hW1 : w.alloc (.cells #[.int .i64 s.loc] 109) = w1 := hW1
  have c0 : w1.cell? ⟨w.heap.size, 0, none⟩ = some (.int .i64 s.loc) := r1.cell 0 (by omega)
  have c1 : w1.cell? ⟨p, 6, none⟩ = some (.int .i64 s.loc) := A1.st.cell 6 (by omega)
  go_enter Tryz.func181, Tryz.ntmps181
  go_wp2
  go_quiet (fail)
  have A2 := A1.low (belowD (Below.refl _ _) nq)
  have g2 := belowD g1 nq
  have r2 := r1.below (belowD (Below.refl w1.heap.size w1) nq) r1.lt
  generalize w1.drewN nq = w2 at A2 g2 r2 ⊢
  have d0 : w2.cell? ⟨w.heap.size, 0, none⟩ = some (.int .i64 s.loc) := r2.cell 0 (by omega)
  have d1 : w2.cell? ⟨p, 114, none⟩ = some (.int .i64 s.closed) := A2.st.cell 114 (by omega)
  have f1 := A2.st.frozen 114
  clear c0 c1 hW1
  go_wp2
  go_ret
  exact ⟨rfl, g2.setCell hA.hp _, A2.cell 114 _ (A2.st.sClosed _) rfl rfl rfl⟩
set_option maxRecDepth 100000 in
set_option maxHeartbeats 40000000 in
theorem aFailed_any (x : Int) (B p z : Nat) (s : St) (lo lp : List Upd) (ls : List Slot) (w : World) (hA : AB B p z s lo lp ls w) : Calls Tryz.prog 178 #[.agg #[.int .i64 x], .pointer (some ⟨p, 0, none⟩)] w fun e w' => e = .returned (.bool true) ∧ Below B w w' ∧ AB B p z ⟨s.side, s.cap, s.bo, s.bp, s.ours, s.peers, s.loc, s.rem, s.ack, s.ao, s.ap, s.so, s.sp, s.ho, s.hp, s.beh, s.p0, s.p1, s.sig, s.shelf, (if s.fail = 0 then x else s.fail), s.closed⟩ lo lp ls w' := by
  obtain ⟨FL, hFL⟩ : ∃ FL, (if s.fail = 0 then x else s.fail) = FL := ⟨_, rfl⟩
  rw [hFL]
  by_cases h : s.fail = 0
  · have e1 : (s.fail == 0) = true := beq_iff_eq.2 h
    have HE : Hid (FL = x) := by show _ = _; rw [← hFL, if_pos h]
    clear h hFL
    obtain ⟨w1, hW1⟩ : ∃ wX, w.alloc (.cells (tabv (fun _ => .int .i64 x) 1) 107) = wX := ⟨_, rfl⟩
    have r1 : Has w1 w.heap.size 107 (fun _ => .int .i64 x) 1 := by rw [← hW1]; exact Has.new w 107 (fun _ => .int .i64 x) 1 _ rfl
    have b1 : Below w.heap.size w w1 := by rw [← hW1]; exact (Below.refl w.heap.size w).alloc (Nat.le_refl _) _
    have A1 := hA.low b1
    have g1 : Below B w w1 := b1.mono hA.size
    have hne : w.heap.size ≠ p := by have := hA.st.lt; omega
    have hW1 : w.alloc (.cells #[.int .i64 x] 107) = w1 := hW1
    have c0 : w1.cell? ⟨w.heap.size, 0, none⟩ = some (.int .i64 x) := r1.cell 0 (by omega)
    have c1 : w1.cell? ⟨p, 113, none⟩ = some (.int .i64 s.fail) := A1.st.cell 113 (by omega)
    have f1 := A1.st.frozen 113
    go_enter Tryz.func178, Tryz.ntmps178
    go_wp2
    go_ret
    exact ⟨rfl, g1.setCell hA.hp _, by rw [HE.out]; exact A1.cell 113 _ (A1.st.sFail _) rfl rfl rfl⟩
  · have e1 : (s.fail == 0) = false := beq_false_of_ne h
    have HE : Hid (FL = s.fail) := by show _ = _; rw [← hFL, if_neg h]
    clear h hFL
    obtain ⟨w1, hW1⟩ : ∃ wX, w.alloc (.cells (tabv (fun _ => .int .i64 x) 1) 107) = wX := ⟨_, rfl⟩
    have r1 : Has w1 w.heap.size 107 (fun _ => .int .i64 x) 1 := by rw [← hW1]; exact Has.new w 107 (fun _ => .int .i64 x) 1 _ rfl
    have b1 : Below w.heap.size w w1 := by rw [← hW1]; exact (Below.refl w.heap.size w).alloc (Nat.le_refl _) _
    have A1 := hA.low b1
    have g1 : Below B w w1 := b1.mono hA.size
    have hne : w.heap.size ≠ p := by have := hA.st.lt; omega
    have hW1 : w.alloc (.cells #[.int .i64 x] 107) = w1 := hW1
    have c0 : w1.cell? ⟨w.heap.size, 0, none⟩ = some (.int .i64 x) := r1.cell 0 (by omega)
    have c1 : w1.cell? ⟨p, 113, none⟩ = some (.int .i64 s.fail) := A1.st.cell 113 (by omega)
    have f1 := A1.st.frozen 113
    go_enter Tryz.func178, Tryz.ntmps178
    go_wp2
    go_ret
    exact ⟨rfl, g1, by rw [HE.out]; exact A1⟩
def sgOk (s : St) (lo : List Upd) (x a b : Int) : Bool := (s.rem == s.ack) && ((x == wrap64 (s.rem + 1)) && ((b == s.ap) && (!decide (a < s.so) && decide (a ≤ (lo.length : Int)))))
set_option maxRecDepth 100000 in
set_option maxHeartbeats 40000000 in
theorem aSigned_no (x a b : Int) (B p z : Nat) (s : St) (lo lp : List Upd) (ls : List Slot) (w : World) (hA : AB B p z s lo lp ls w) (hok : sgOk s lo x a b = false) : Calls Tryz.prog 155 #[.agg (tabv (Sg.v ⟨x, a, b⟩) 3), .pointer (some ⟨p, 0, none⟩)] w fun e w' => e = .returned (.bool (sgOk s lo x a b)) ∧ Below B w w' ∧ Has w' z 31 St.zero.v 115 := by
  by_cases h1 : s.rem = s.ack
  · by_cases h2 : x = wrap64 (s.rem + 1)
    · by_cases h3 : b = s.ap
      · by_cases h4 : a < s.so
        · rw [show sgOk s lo x a b = false by unfold sgOk; simp [h4]]
          obtain ⟨w1, hW1⟩ : ∃ wX, w.alloc (.cells (tabv (Sg.v ⟨x, a, b⟩) 3) 101) = wX := ⟨_, rfl⟩
          have r1 : Has w1 w.heap.size 101 (Sg.v ⟨x, a, b⟩) 3 := by rw [← hW1]; exact Has.new w 101 (Sg.v ⟨x, a, b⟩) 3 _ rfl
          have b1 : Below w.heap.size w w1 := by rw [← hW1]; exact (Below.refl w.heap.size w).alloc (Nat.le_refl _) _
          have A1 := hA.low b1
          have g1 : Below B w w1 := b1.mono hA.size
          have hne : w.heap.size ≠ p := by have := hA.st.lt; omega
          obtain ⟨R, hR⟩ : ∃ R, wrap64 (s.rem + 1) = R := ⟨_, rfl⟩
          have c0 : w1.cell? ⟨w.heap.size, 0, none⟩ = some (.int .i64 x) := r1.cell 0 (by omega)
          have c1 : w1.cell? ⟨w.heap.size, 1, none⟩ = some (.int .i64 a) := r1.cell 1 (by omega)
          have c2 : w1.cell? ⟨w.heap.size, 2, none⟩ = some (.int .i64 b) := r1.cell 2 (by omega)
          have d4 : w1.cell? ⟨p, 4, none⟩ = some (.slice s.ours.ad s.ours.n s.ours.c) := A1.st.cell 4 (by omega)
          have d7 : w1.cell? ⟨p, 7, none⟩ = some (.int .i64 s.rem) := A1.st.cell 7 (by omega)
          have d8 : w1.cell? ⟨p, 8, none⟩ = some (.int .i64 s.ack) := A1.st.cell 8 (by omega)
          have d10 : w1.cell? ⟨p, 10, none⟩ = some (.int .i64 s.ap) := A1.st.cell 10 (by omega)
          have d11 : w1.cell? ⟨p, 11, none⟩ = some (.int .i64 s.so) := A1.st.cell 11 (by omega)
          have q1 : (s.rem != s.ack) = false := by rw [h1]; exact bne_self_eq_false _
          have q2 : (x != R) = false := by rw [← hR, h2]; exact bne_self_eq_false _
          have q3 : (b != s.ap) = false := by rw [h3]; exact bne_self_eq_false _
          have q4 : decide (a < s.so) = true := decide_eq_true h4
          clear h1 h2 h3 h4 hok
          go_enter Tryz.func155, Tryz.ntmps155
          go_wp2
          go_quiet (fail)
          have A2 := A1.low (belowD (Below.refl _ _) nq)
          have g2 := belowD g1 nq
          have r2 := r1.below (belowD (Below.refl w1.heap.size w1) nq) r1.lt
          generalize w1.drewN nq = w2 at A2 g2 r2 ⊢
          clear c0 c1 c2 d4 d7 d8 d10 d11
          clear q1 q2 hR
          have c0 : w2.cell? ⟨w.heap.size, 0, none⟩ = some (.int .i64 x) := r2.cell 0 (by omega)
          have c1 : w2.cell? ⟨w.heap.size, 1, none⟩ = some (.int .i64 a) := r2.cell 1 (by omega)
          have c2 : w2.cell? ⟨w.heap.size, 2, none⟩ = some (.int .i64 b) := r2.cell 2 (by omega)
          have d4 : w2.cell? ⟨p, 4, none⟩ = some (.slice s.ours.ad s.ours.n s.ours.c) := A2.st.cell 4 (by omega)
          have d10 : w2.cell? ⟨p, 10, none⟩ = some (.int .i64 s.ap) := A2.st.cell 10 (by omega)
          have d11 : w2.cell? ⟨p, 11, none⟩ = some (.int .i64 s.so) := A2.st.cell 11 (by omega)
          go_wp2
          go_quiet (fail)
          have A3 := A2.low (belowD (Below.refl _ _) nq)
          have g3 := belowD g2 nq
          have r3 := r2.below (belowD (Below.refl w2.heap.size w2) nq) r2.lt
          generalize w2.drewN nq = w3 at A3 g3 r3 ⊢
          clear c0 c1 c2 d4 d10 d11
          clear q3 q4
          go_wp2
          go_ret
          exact ⟨rfl, g3, A3.kp⟩
        · have h5 : (s.ours.n : Int) < a := by
            rcases Int.lt_or_le (s.ours.n : Int) a with h5 | h5
            · exact h5
            · exfalso
              have : sgOk s lo x a b = true := by
                unfold sgOk
                rw [hA.os.o.sl.1]
                simp [h1, h2, h3, h4, h5]
              rw [this] at hok
              cases hok
          rw [hok]
          obtain ⟨w1, hW1⟩ : ∃ wX, w.alloc (.cells (tabv (Sg.v ⟨x, a, b⟩) 3) 101) = wX := ⟨_, rfl⟩
          have r1 : Has w1 w.heap.size 101 (Sg.v ⟨x, a, b⟩) 3 := by rw [← hW1]; exact Has.new w 101 (Sg.v ⟨x, a, b⟩) 3 _ rfl
          have b1 : Below w.heap.size w w1 := by rw [← hW1]; exact (Below.refl w.heap.size w).alloc (Nat.le_refl _) _
          have A1 := hA.low b1
          have g1 : Below B w w1 := b1.mono hA.size
          have hne : w.heap.size ≠ p := by have := hA.st.lt; omega
          obtain ⟨R, hR⟩ : ∃ R, wrap64 (s.rem + 1) = R := ⟨_, rfl⟩
          have c0 : w1.cell? ⟨w.heap.size, 0, none⟩ = some (.int .i64 x) := r1.cell 0 (by omega)
          have c1 : w1.cell? ⟨w.heap.size, 1, none⟩ = some (.int .i64 a) := r1.cell 1 (by omega)
          have c2 : w1.cell? ⟨w.heap.size, 2, none⟩ = some (.int .i64 b) := r1.cell 2 (by omega)
          have d4 : w1.cell? ⟨p, 4, none⟩ = some (.slice s.ours.ad s.ours.n s.ours.c) := A1.st.cell 4 (by omega)
          have d7 : w1.cell? ⟨p, 7, none⟩ = some (.int .i64 s.rem) := A1.st.cell 7 (by omega)
          have d8 : w1.cell? ⟨p, 8, none⟩ = some (.int .i64 s.ack) := A1.st.cell 8 (by omega)
          have d10 : w1.cell? ⟨p, 10, none⟩ = some (.int .i64 s.ap) := A1.st.cell 10 (by omega)
          have d11 : w1.cell? ⟨p, 11, none⟩ = some (.int .i64 s.so) := A1.st.cell 11 (by omega)
          have q1 : (s.rem != s.ack) = false := by rw [h1]; exact bne_self_eq_false _
          have q2 : (x != R) = false := by rw [← hR, h2]; exact bne_self_eq_false _
          have q3 : (b != s.ap) = false := by rw [h3]; exact bne_self_eq_false _
          have q4 : decide (a < s.so) = false := decide_eq_false h4
          have q5 : decide ((s.ours.n : Int) < a) = true := decide_eq_true h5
          clear h1 h2 h3 h4 h5 hok
          go_enter Tryz.func155, Tryz.ntmps155
          go_wp2
          go_quiet (fail)
          have A2 := A1.low (belowD (Below.refl _ _) nq)
          have g2 := belowD g1 nq
          have r2 := r1.below (belowD (Below.refl w1.heap.size w1) nq) r1.lt
          generalize w1.drewN nq = w2 at A2 g2 r2 ⊢
          clear c0 c1 c2 d4 d7 d8 d10 d11
          clear q1 q2 hR
          have c0 : w2.cell? ⟨w.heap.size, 0, none⟩ = some (.int .i64 x) := r2.cell 0 (by omega)
          have c1 : w2.cell? ⟨w.heap.size, 1, none⟩ = some (.int .i64 a) := r2.cell 1 (by omega)
          have c2 : w2.cell? ⟨w.heap.size, 2, none⟩ = some (.int .i64 b) := r2.cell 2 (by omega)
          have d4 : w2.cell? ⟨p, 4, none⟩ = some (.slice s.ours.ad s.ours.n s.ours.c) := A2.st.cell 4 (by omega)
          have d10 : w2.cell? ⟨p, 10, none⟩ = some (.int .i64 s.ap) := A2.st.cell 10 (by omega)
          have d11 : w2.cell? ⟨p, 11, none⟩ = some (.int .i64 s.so) := A2.st.cell 11 (by omega)
          go_wp2
          go_quiet (fail)
          have A3 := A2.low (belowD (Below.refl _ _) nq)
          have g3 := belowD g2 nq
          have r3 := r2.below (belowD (Below.refl w2.heap.size w2) nq) r2.lt
          generalize w2.drewN nq = w3 at A3 g3 r3 ⊢
          clear c0 c1 c2 d4 d10 d11
          clear q3 q4 q5
          go_wp2
          go_ret
          exact ⟨rfl, g3, A3.kp⟩
      · rw [show sgOk s lo x a b = false by unfold sgOk; simp [h3]]
        obtain ⟨w1, hW1⟩ : ∃ wX, w.alloc (.cells (tabv (Sg.v ⟨x, a, b⟩) 3) 101) = wX := ⟨_, rfl⟩
        have r1 : Has w1 w.heap.size 101 (Sg.v ⟨x, a, b⟩) 3 := by rw [← hW1]; exact Has.new w 101 (Sg.v ⟨x, a, b⟩) 3 _ rfl
        have b1 : Below w.heap.size w w1 := by rw [← hW1]; exact (Below.refl w.heap.size w).alloc (Nat.le_refl _) _
        have A1 := hA.low b1
        have g1 : Below B w w1 := b1.mono hA.size
        have hne : w.heap.size ≠ p := by have := hA.st.lt; omega
        obtain ⟨R, hR⟩ : ∃ R, wrap64 (s.rem + 1) = R := ⟨_, rfl⟩
        have c0 : w1.cell? ⟨w.heap.size, 0, none⟩ = some (.int .i64 x) := r1.cell 0 (by omega)
        have c1 : w1.cell? ⟨w.heap.size, 1, none⟩ = some (.int .i64 a) := r1.cell 1 (by omega)
        have c2 : w1.cell? ⟨w.heap.size, 2, none⟩ = some (.int .i64 b) := r1.cell 2 (by omega)
        have d4 : w1.cell? ⟨p, 4, none⟩ = some (.slice s.ours.ad s.ours.n s.ours.c) := A1.st.cell 4 (by omega)
        have d7 : w1.cell? ⟨p, 7, none⟩ = some (.int .i64 s.rem) := A1.st.cell 7 (by omega)
        have d8 : w1.cell? ⟨p, 8, none⟩ = some (.int .i64 s.ack) := A1.st.cell 8 (by omega)
        have d10 : w1.cell? ⟨p, 10, none⟩ = some (.int .i64 s.ap) := A1.st.cell 10 (by omega)
        have d11 : w1.cell? ⟨p, 11, none⟩ = some (.int .i64 s.so) := A1.st.cell 11 (by omega)
        have q1 : (s.rem != s.ack) = false := by rw [h1]; exact bne_self_eq_false _
        have q2 : (x != R) = false := by rw [← hR, h2]; exact bne_self_eq_false _
        have q3 : (b != s.ap) = true := bne_iff_ne.2 h3
        clear h1 h2 h3 hok
        go_enter Tryz.func155, Tryz.ntmps155
        go_wp2
        go_quiet (fail)
        have A2 := A1.low (belowD (Below.refl _ _) nq)
        have g2 := belowD g1 nq
        have r2 := r1.below (belowD (Below.refl w1.heap.size w1) nq) r1.lt
        generalize w1.drewN nq = w2 at A2 g2 r2 ⊢
        clear c0 c1 c2 d4 d7 d8 d10 d11
        clear q1 q2 hR
        have c0 : w2.cell? ⟨w.heap.size, 0, none⟩ = some (.int .i64 x) := r2.cell 0 (by omega)
        have c1 : w2.cell? ⟨w.heap.size, 1, none⟩ = some (.int .i64 a) := r2.cell 1 (by omega)
        have c2 : w2.cell? ⟨w.heap.size, 2, none⟩ = some (.int .i64 b) := r2.cell 2 (by omega)
        have d4 : w2.cell? ⟨p, 4, none⟩ = some (.slice s.ours.ad s.ours.n s.ours.c) := A2.st.cell 4 (by omega)
        have d10 : w2.cell? ⟨p, 10, none⟩ = some (.int .i64 s.ap) := A2.st.cell 10 (by omega)
        have d11 : w2.cell? ⟨p, 11, none⟩ = some (.int .i64 s.so) := A2.st.cell 11 (by omega)
        go_wp2
        go_quiet (fail)
        have A3 := A2.low (belowD (Below.refl _ _) nq)
        have g3 := belowD g2 nq
        have r3 := r2.below (belowD (Below.refl w2.heap.size w2) nq) r2.lt
        generalize w2.drewN nq = w3 at A3 g3 r3 ⊢
        clear c0 c1 c2 d4 d10 d11
        clear q3
        go_wp2
        go_ret
        exact ⟨rfl, g3, A3.kp⟩
    · rw [show sgOk s lo x a b = false by unfold sgOk; simp [h2]]
      obtain ⟨w1, hW1⟩ : ∃ wX, w.alloc (.cells (tabv (Sg.v ⟨x, a, b⟩) 3) 101) = wX := ⟨_, rfl⟩
      have r1 : Has w1 w.heap.size 101 (Sg.v ⟨x, a, b⟩) 3 := by rw [← hW1]; exact Has.new w 101 (Sg.v ⟨x, a, b⟩) 3 _ rfl
      have b1 : Below w.heap.size w w1 := by rw [← hW1]; exact (Below.refl w.heap.size w).alloc (Nat.le_refl _) _
      have A1 := hA.low b1
      have g1 : Below B w w1 := b1.mono hA.size
      have hne : w.heap.size ≠ p := by have := hA.st.lt; omega
      obtain ⟨R, hR⟩ : ∃ R, wrap64 (s.rem + 1) = R := ⟨_, rfl⟩
      have c0 : w1.cell? ⟨w.heap.size, 0, none⟩ = some (.int .i64 x) := r1.cell 0 (by omega)
      have c1 : w1.cell? ⟨w.heap.size, 1, none⟩ = some (.int .i64 a) := r1.cell 1 (by omega)
      have c2 : w1.cell? ⟨w.heap.size, 2, none⟩ = some (.int .i64 b) := r1.cell 2 (by omega)
      have d4 : w1.cell? ⟨p, 4, none⟩ = some (.slice s.ours.ad s.ours.n s.ours.c) := A1.st.cell 4 (by omega)
      have d7 : w1.cell? ⟨p, 7, none⟩ = some (.int .i64 s.rem) := A1.st.cell 7 (by omega)
      have d8 : w1.cell? ⟨p, 8, none⟩ = some (.int .i64 s.ack) := A1.st.cell 8 (by omega)
      have d10 : w1.cell? ⟨p, 10, none⟩ = some (.int .i64 s.ap) := A1.st.cell 10 (by omega)
      have d11 : w1.cell? ⟨p, 11, none⟩ = some (.int .i64 s.so) := A1.st.cell 11 (by omega)
      have q1 : (s.rem != s.ack) = false := by rw [h1]; exact bne_self_eq_false _
      have q2 : (x != R) = true := by rw [← hR]; exact bne_iff_ne.2 h2
      clear h1 h2 hok
      go_enter Tryz.func155, Tryz.ntmps155
      go_wp2
      go_quiet (fail)
      have A2 := A1.low (belowD (Below.refl _ _) nq)
      have g2 := belowD g1 nq
      have r2 := r1.below (belowD (Below.refl w1.heap.size w1) nq) r1.lt
      generalize w1.drewN nq = w2 at A2 g2 r2 ⊢
      clear c0 c1 c2 d4 d7 d8 d10 d11
      go_wp2
      go_ret
      exact ⟨rfl, g2, A2.kp⟩
  · rw [show sgOk s lo x a b = false by unfold sgOk; simp [h1]]
    obtain ⟨w1, hW1⟩ : ∃ wX, w.alloc (.cells (tabv (Sg.v ⟨x, a, b⟩) 3) 101) = wX := ⟨_, rfl⟩
    have r1 : Has w1 w.heap.size 101 (Sg.v ⟨x, a, b⟩) 3 := by rw [← hW1]; exact Has.new w 101 (Sg.v ⟨x, a, b⟩) 3 _ rfl
    have b1 : Below w.heap.size w w1 := by rw [← hW1]; exact (Below.refl w.heap.size w).alloc (Nat.le_refl _) _
    have A1 := hA.low b1
    have g1 : Below B w w1 := b1.mono hA.size
    have hne : w.heap.size ≠ p := by have := hA.st.lt; omega
    obtain ⟨R, hR⟩ : ∃ R, wrap64 (s.rem + 1) = R := ⟨_, rfl⟩
    have c0 : w1.cell? ⟨w.heap.size, 0, none⟩ = some (.int .i64 x) := r1.cell 0 (by omega)
    have c1 : w1.cell? ⟨w.heap.size, 1, none⟩ = some (.int .i64 a) := r1.cell 1 (by omega)
    have c2 : w1.cell? ⟨w.heap.size, 2, none⟩ = some (.int .i64 b) := r1.cell 2 (by omega)
    have d4 : w1.cell? ⟨p, 4, none⟩ = some (.slice s.ours.ad s.ours.n s.ours.c) := A1.st.cell 4 (by omega)
    have d7 : w1.cell? ⟨p, 7, none⟩ = some (.int .i64 s.rem) := A1.st.cell 7 (by omega)
    have d8 : w1.cell? ⟨p, 8, none⟩ = some (.int .i64 s.ack) := A1.st.cell 8 (by omega)
    have d10 : w1.cell? ⟨p, 10, none⟩ = some (.int .i64 s.ap) := A1.st.cell 10 (by omega)
    have d11 : w1.cell? ⟨p, 11, none⟩ = some (.int .i64 s.so) := A1.st.cell 11 (by omega)
    have q1 : (s.rem != s.ack) = true := bne_iff_ne.2 h1
    clear h1 hok
    go_enter Tryz.func155, Tryz.ntmps155
    go_wp2
    go_quiet (fail)
    have A2 := A1.low (belowD (Below.refl _ _) nq)
    have g2 := belowD g1 nq
    have r2 := r1.below (belowD (Below.refl w1.heap.size w1) nq) r1.lt
    generalize w1.drewN nq = w2 at A2 g2 r2 ⊢
    clear c0 c1 c2 d4 d7 d8 d10 d11
    go_wp2
    go_ret
    exact ⟨rfl, g2, A2.kp⟩
set_option maxRecDepth 100000 in
set_option maxHeartbeats 40000000 in
theorem aSigned_yes (x a b : Int) (B p z : Nat) (s : St) (lo lp : List Upd) (ls : List Slot) (w : World) (hA : AB B p z s lo lp ls w) (hok : sgOk s lo x a b = true) : Calls Tryz.prog 155 #[.agg (tabv (Sg.v ⟨x, a, b⟩) 3), .pointer (some ⟨p, 0, none⟩)] w fun e w' => e = .returned (.bool (sgOk s lo x a b)) ∧ Below B w w' ∧ AB B p z ⟨s.side, s.cap, s.bo, s.bp, s.ours, s.peers, s.loc, x, s.ack, s.ao, s.ap, a, b, s.ho, s.hp, true, s.p0, s.p1, s.sig, s.shelf, s.fail, s.closed⟩ lo lp ls w' := by
  have hok' := hok
  unfold sgOk at hok
  rw [hA.os.o.sl.1] at hok
  simp only [Bool.and_eq_true, beq_iff_eq, Bool.not_eq_true', decide_eq_true_eq, decide_eq_false_iff_not] at hok
  obtain ⟨h1, h2, h3, h4, h5'⟩ := hok
  have h5 : ¬((s.ours.n : Int) < a) := by omega
  clear h5'
  rw [hok']
  clear hok'
  obtain ⟨w1, hW1⟩ : ∃ wX, w.alloc (.cells (tabv (Sg.v ⟨x, a, b⟩) 3) 101) = wX := ⟨_, rfl⟩
  have r1 : Has w1 w.heap.size 101 (Sg.v ⟨x, a, b⟩) 3 := by rw [← hW1]; exact Has.new w 101 (Sg.v ⟨x, a, b⟩) 3 _ rfl
  have b1 : Below w.heap.size w w1 := by rw [← hW1]; exact (Below.refl w.heap.size w).alloc (Nat.le_refl _) _
  have A1 := hA.low b1
  have g1 : Below B w w1 := b1.mono hA.size
  have hne : w.heap.size ≠ p := by have := hA.st.lt; omega
  obtain ⟨R, hR⟩ : ∃ R, wrap64 (s.rem + 1) = R := ⟨_, rfl⟩
  have c0 : w1.cell? ⟨w.heap.size, 0, none⟩ = some (.int .i64 x) := r1.cell 0 (by omega)
  have c1 : w1.cell? ⟨w.heap.size, 1, none⟩ = some (.int .i64 a) := r1.cell 1 (by omega)
  have c2 : w1.cell? ⟨w.heap.size, 2, none⟩ = some (.int .i64 b) := r1.cell 2 (by omega)
  have d4 : w1.cell? ⟨p, 4, none⟩ = some (.slice s.ours.ad s.ours.n s.ours.c) := A1.st.cell 4 (by omega)
  have d7 : w1.cell? ⟨p, 7, none⟩ = some (.int .i64 s.rem) := A1.st.cell 7 (by omega)
  have d8 : w1.cell? ⟨p, 8, none⟩ = some (.int .i64 s.ack) := A1.st.cell 8 (by omega)
  have d10 : w1.cell? ⟨p, 10, none⟩ = some (.int .i64 s.ap) := A1.st.cell 10 (by omega)
  have d11 : w1.cell? ⟨p, 11, none⟩ = some (.int .i64 s.so) := A1.st.cell 11 (by omega)
  have q1 : (s.rem != s.ack) = false := by rw [h1]; exact bne_self_eq_false _
  have q2 : (x != R) = false := by rw [← hR, h2]; exact bne_self_eq_false _
  have q3 : (b != s.ap) = false := by rw [h3]; exact bne_self_eq_false _
  have q4 : decide (a < s.so) = false := decide_eq_false h4
  have q5 : decide ((s.ours.n : Int) < a) = false := decide_eq_false h5
  clear h1 h2 h3 h4 h5
  go_enter Tryz.func155, Tryz.ntmps155
  go_wp2
  go_quiet (fail)
  have A2 := A1.low (belowD (Below.refl _ _) nq)
  have g2 := belowD g1 nq
  have r2 := r1.below (belowD (Below.refl w1.heap.size w1) nq) r1.lt
  generalize w1.drewN nq = w2 at A2 g2 r2 ⊢
  clear c0 c1 c2 d4 d7 d8 d10 d11
  clear q1 q2 hR
  have c0 : w2.cell? ⟨w.heap.size, 0, none⟩ = some (.int .i64 x) := r2.cell 0 (by omega)
  have c1 : w2.cell? ⟨w.heap.size, 1, none⟩ = some (.int .i64 a) := r2.cell 1 (by omega)
  have c2 : w2.cell? ⟨w.heap.size, 2, none⟩ = some (.int .i64 b) := r2.cell 2 (by omega)
  have d4 : w2.cell? ⟨p, 4, none⟩ = some (.slice s.ours.ad s.ours.n s.ours.c) := A2.st.cell 4 (by omega)
  have d10 : w2.cell? ⟨p, 10, none⟩ = some (.int .i64 s.ap) := A2.st.cell 10 (by omega)
  have d11 : w2.cell? ⟨p, 11, none⟩ = some (.int .i64 s.so) := A2.st.cell 11 (by omega)
  go_wp2
  go_quiet (fail)
  have A3 := A2.low (belowD (Below.refl _ _) nq)
  have g3 := belowD g2 nq
  have r3 := r2.below (belowD (Below.refl w2.heap.size w2) nq) r2.lt
  generalize w2.drewN nq = w3 at A3 g3 r3 ⊢
  clear c0 c1 c2 d4 d10 d11
  clear q3 q4 q5
  obtain ⟨w4, hW4⟩ : ∃ y, w3.setCell ⟨p, 7, none⟩ (.int .i64 x) = y := ⟨_, rfl⟩
  have A4 : AB B p z ⟨s.side, s.cap, s.bo, s.bp, s.ours, s.peers, s.loc, x, s.ack, s.ao, s.ap, s.so, s.sp, s.ho, s.hp, s.beh, s.p0, s.p1, s.sig, s.shelf, s.fail, s.closed⟩ lo lp ls w4 := by rw [← hW4]; exact A3.cell 7 _ (A3.st.sRem x) rfl rfl rfl
  have r4 : Has w4 w.heap.size 101 (Sg.v ⟨x, a, b⟩) 3 := by rw [← hW4]; exact r3.other _ _ hne
  have g4 : Below B w w4 := by rw [← hW4]; exact g3.setCell hA.hp _
  obtain ⟨w5, hW5⟩ : ∃ y, w4.setRow p (tabv (St.v ⟨s.side, s.cap, s.bo, s.bp, s.ours, s.peers, s.loc, x, s.ack, s.ao, s.ap, a, b, s.ho, s.hp, s.beh, s.p0, s.p1, s.sig, s.shelf, s.fail, s.closed⟩) 115) = y := ⟨_, rfl⟩
  have A5 : AB B p z ⟨s.side, s.cap, s.bo, s.bp, s.ours, s.peers, s.loc, x, s.ack, s.ao, s.ap, a, b, s.ho, s.hp, s.beh, s.p0, s.p1, s.sig, s.shelf, s.fail, s.closed⟩ lo lp ls w5 := by rw [← hW5]; exact A4.row rfl rfl rfl
  have g5 : Below B w w5 := by rw [← hW5]; exact below_setRow g4 hA.hp _
  obtain ⟨w6, hW6⟩ : ∃ y, w5.setCell ⟨p, 15, none⟩ (.bool true) = y := ⟨_, rfl⟩
  have A6 : AB B p z ⟨s.side, s.cap, s.bo, s.bp, s.ours, s.peers, s.loc, x, s.ack, s.ao, s.ap, a, b, s.ho, s.hp, true, s.p0, s.p1, s.sig, s.shelf, s.fail, s.closed⟩ lo lp ls w6 := by rw [← hW6]; exact A5.cell 15 _ (A5.st.sBeh true) rfl rfl rfl
  have g6 : Below B w w6 := by rw [← hW6]; exact g5.setCell hA.hp _
  have c0 : w3.cell? ⟨w.heap.size, 0, none⟩ = some (.int .i64 x) := r3.cell 0 (by omega)
  have d7 : w3.cell? ⟨p, 7, none⟩ = some (.int .i64 s.rem) := A3.st.cell 7 (by omega)
  have f7 := A3.st.frozen 7
  have d15 : w5.cell? ⟨p, 15, none⟩ = some (.bool s.beh) := A5.st.cell 15 (by omega)
  have f15 := A5.st.frozen 15
  have aC : Hid (At w4 w.heap.size 1 (ctv a b) 2) := fun j hj => by
    rw [r4.cell (1 + j) (by omega)]
    rcases (show j = 0 ∨ j = 1 by omega) with rfl | rfl <;> rfl
  have H4 := hide A4.st
  go_wp2_with (first | rw [hW4] | rw [hW5] | rw [hW6] | refine wpW_load_at 23 _ rfl (w.heap.size) (1) (by rfl) (by rfl) _ 2 _ (aC.out) Tryz.underlying23 rfl infoC ?_ | refine wpList_store_part rfl 23 _ _ rfl rfl p 11 (ctv a b) 2 rfl rfl 31 _ 115 H4.out (by omega) infoC (fun i _ => oneC2 a b i) _ (splice_cSg _ a b) ?_ | fail)
  try rw [hW6]
  go_ret
  exact ⟨rfl, g6, A6⟩
section
variable {B p z : Nat} {s : St} {lo lp : List Upd} {ls : List Slot} {w w' : World} {x : Sl}
theorem AB.appO {u : Upd} (h : AB B p z s lo lp ls w) (O : OwnU B w' x.v (lo ++ [u])) (gr : ∀ g, g < w.heap.size → s.ours.v.ownBlock ≠ some g → w'.heap[g]? = w.heap[g]?) (own : ∀ k, x.v.ownBlock = some k → s.ours.v.ownBlock = some k ∨ w.heap.size ≤ k) : AB B p z ⟨s.side, s.cap, s.bo, s.bp, x, s.peers, s.loc, s.rem, s.ack, s.ao, s.ap, s.so, s.sp, s.ho, s.hp, s.beh, s.p0, s.p1, s.sig, s.shelf, s.fail, s.closed⟩ (lo ++ [u]) lp ls (w'.setCell ⟨p, 4, none⟩ x.v) := by
  have hx : x.v.ownBlock ≠ some p := fun e => by
    rcases own p e with e1 | e1
    · exact h.np.1 e1
    · have := h.st.lt; omega
  have sc : ∀ k, k ≠ p → (w'.setCell ⟨p, 4, none⟩ x.v).heap[k]? = w'.heap[k]? := fun k hk => Below.heap_setCell w' ⟨p, 4, none⟩ _ k hk
  have gp : Has w' p 31 s.v 115 := h.st.same (gr p h.st.lt h.np.1)
  refine ⟨gp.sOurs x, ⟨O.same fun k hk => sc k (fun e => hx (e ▸ hk)), h.os.p.same fun k hk => (sc k (fun e => h.np.2.1 (e ▸ hk))).trans (gr k (h.os.p.lt k hk).2 (fun e => h.os.op k e hk)), h.os.f.same fun k hk => (sc k (fun e => h.np.2.2 (e ▸ hk))).trans (gr k (h.os.f.lt k hk).2 (fun e => h.os.os k e hk)), fun k hk e => ?_, fun k hk e => ?_, h.os.ps⟩, h.hp, ⟨hx, h.np.2.1, h.np.2.2⟩, (h.kp.same (gr z h.kp.lt h.nz.2.1)).other _ _ h.nz.1, h.nz.1, fun e => ?_, h.nz.2.2⟩
  · rcases own k hk with e1 | e1
    · exact h.os.op k e1 e
    · have := (h.os.p.lt k e).2; omega
  · rcases own k hk with e1 | e1
    · exact h.os.os k e1 e
    · have := (h.os.f.lt k e).2; omega
  · rcases own z e with e1 | e1
    · exact h.nz.2.1 e1
    · have := h.kp.lt; omega
theorem AB.shelf {ls' : List Slot} {C : Nat} (h : AB B p z s lo lp ls w) (O : OwnS C w x.v ls') (hC : ∀ k, x.v.ownBlock = some k → k ≠ p ∧ s.ours.v.ownBlock ≠ some k ∧ s.peers.v.ownBlock ≠ some k ∧ k ≠ z) (hB : B ≤ C) : AB B p z ⟨s.side, s.cap, s.bo, s.bp, s.ours, s.peers, s.loc, s.rem, s.ack, s.ao, s.ap, s.so, s.sp, s.ho, s.hp, s.beh, s.p0, s.p1, s.sig, x, s.fail, s.closed⟩ lo lp ls' (w.setCell ⟨p, 112, none⟩ x.v) := by
  have sc : ∀ k, k ≠ p → (w.setCell ⟨p, 112, none⟩ x.v).heap[k]? = w.heap[k]? := fun k hk => Below.heap_setCell w ⟨p, 112, none⟩ _ k hk
  exact ⟨h.st.sShelf x, ⟨h.os.o.same fun k hk => sc k (fun e => h.np.1 (e ▸ hk)), h.os.p.same fun k hk => sc k (fun e => h.np.2.1 (e ▸ hk)), (O.mono hB).same fun k hk => sc k (hC k hk).1, h.os.op, fun k hk e => (hC k e).2.1 hk, fun k hk e => (hC k e).2.2.1 hk⟩, h.hp, ⟨h.np.1, h.np.2.1, fun e => (hC p e).1 rfl⟩, h.kp.other _ _ h.nz.1, h.nz.1, h.nz.2.1, h.nz.2.2.1, fun e => (hC z e).2.2.2 rfl⟩
end
set_option maxRecDepth 100000 in
set_option maxHeartbeats 40000000 in
theorem aOurs_no [Inhabited S.Tbl] (u : Upd) (B p z : Nat) (s : St) (lo lp : List Upd) (ls : List Slot) (w : World) (hA : AB B p z s lo lp ls w) (zo : s.ours.n ≤ 140737488351232) (zp : s.peers.n ≤ 140737488351232) (hG : Glob num w) (h2B : 2 ≤ B) (h : nextA lo lp u ≠ 0) : Calls Tryz.prog 128 #[.agg (tabv u.v 36), .pointer (some ⟨p, 0, none⟩)] w fun e w' => e = .returned (.bool false) ∧ Below B w w' ∧ Has w' z 31 St.zero.v 115 := by
  obtain ⟨w1, hW1⟩ : ∃ wX, w.alloc (.cells (tabv u.v 36) 99) = wX := ⟨_, rfl⟩
  have r1 : Has w1 w.heap.size 99 u.v 36 := by rw [← hW1]; exact Has.new w 99 u.v 36 _ rfl
  have b1 : Below w.heap.size w w1 := by rw [← hW1]; exact (Below.refl w.heap.size w).alloc (Nat.le_refl _) _
  have A1 := hA.low b1
  have g1 : Below B w w1 := b1.mono hA.size
  have hne : w.heap.size ≠ p := by have := hA.st.lt; omega
  obtain ⟨R, hR⟩ : ∃ R, nextA lo lp u = R := ⟨_, rfl⟩
  have HN := hide (fun (wx : World) (hb : Below w1.heap.size w1 wx) => next_any num s.ours.ad s.peers.ad s.ours.n s.peers.n s.ours.c s.peers.c lo lp hA.os.o.sl.1 hA.os.p.sl.1 zo zp u wx (hG.below (g1.trans (hb.mono (Nat.le_trans hA.size b1.size))) h2B) (A1.low hb).os.o.sl.2.1 (A1.low hb).os.p.sl.2.1)
  rw [hR] at HN
  have hR2 : (R != 0) = true := by rw [← hR]; exact bne_iff_ne.2 h
  clear h hR
  go_enter Tryz.func128, Tryz.ntmps128
  go_wp2
  refine wp_region_noPanic ?_
  refine wp_region_held_drew (S := fun wx => Below w1.heap.size w1 wx) (by kernel_rfl) ((Below.refl _ _).drew) (fun hHeld => ?_)
  generalize hwd : World.drew w1 = wd at hHeld ⊢
  refine Cu.takeH 0 (some 5) (.pointer (some ⟨p, 0, none⟩)) rfl rfl (by kernel_rfl) (by kernel_rfl) (by kernel_rfl) (fun _ _ _ h => h) (by rfl) (fun w_ hw => by first | rfl | (go_simp; done) | (go_simp; rfl) | (go_simp; omega)) hHeld ?_
  simp only [Act.put, List.setIfInBounds_toArray, List.set_cons_zero, List.set_cons_succ]
  refine Cu.takeH 1 (some 6) (.pointer (some ⟨p, 0, none⟩)) rfl rfl (by kernel_rfl) (by kernel_rfl) (by kernel_rfl) (fun _ _ _ h => h) (by rfl) (fun w_ hw => by first | rfl | (go_simp; done) | (go_simp; rfl) | (go_simp; omega)) hHeld ?_
  simp only [Act.put, List.setIfInBounds_toArray, List.set_cons_zero, List.set_cons_succ]
  refine Cu.takeH 2 (some 7) (.pointer (some ⟨p, 4, none⟩)) rfl rfl (by kernel_rfl) (by kernel_rfl) (by kernel_rfl) (fun _ _ _ h => h) (by rfl) (fun w_ hw => by first | rfl | (go_simp; done) | (go_simp; rfl) | (go_simp; omega)) hHeld ?_
  simp only [Act.put, List.setIfInBounds_toArray, List.set_cons_zero, List.set_cons_succ]
  refine Cu.takeH 3 (some 8) (.slice s.ours.ad s.ours.n s.ours.c) rfl rfl (by kernel_rfl) (by kernel_rfl) (by kernel_rfl) (fun _ _ _ h => h) (by rfl) (fun w_ hw => by have c : World.cell? _ ⟨p, 4, none⟩ = some (.slice s.ours.ad s.ours.n s.ours.c) := (A1.low hw).st.cell 4 (by omega); first | rfl | (go_simp; done) | (go_simp; rfl) | (go_simp; omega)) hHeld ?_
  simp only [Act.put, List.setIfInBounds_toArray, List.set_cons_zero, List.set_cons_succ]
  refine Cu.takeH 4 (some 9) (.pointer (some ⟨p, 0, none⟩)) rfl rfl (by kernel_rfl) (by kernel_rfl) (by kernel_rfl) (fun _ _ _ h => h) (by rfl) (fun w_ hw => by first | rfl | (go_simp; done) | (go_simp; rfl) | (go_simp; omega)) hHeld ?_
  simp only [Act.put, List.setIfInBounds_toArray, List.set_cons_zero, List.set_cons_succ]
  refine Cu.takeH 5 (some 10) (.pointer (some ⟨p, 0, none⟩)) rfl rfl (by kernel_rfl) (by kernel_rfl) (by kernel_rfl) (fun _ _ _ h => h) (by rfl) (fun w_ hw => by first | rfl | (go_simp; done) | (go_simp; rfl) | (go_simp; omega)) hHeld ?_
  simp only [Act.put, List.setIfInBounds_toArray, List.set_cons_zero, List.set_cons_succ]
  refine Cu.takeH 6 (some 11) (.pointer (some ⟨p, 5, none⟩)) rfl rfl (by kernel_rfl) (by kernel_rfl) (by kernel_rfl) (fun _ _ _ h => h) (by rfl) (fun w_ hw => by first | rfl | (go_simp; done) | (go_simp; rfl) | (go_simp; omega)) hHeld ?_
  simp only [Act.put, List.setIfInBounds_toArray, List.set_cons_zero, List.set_cons_succ]
  refine Cu.takeH 7 (some 12) (.slice s.peers.ad s.peers.n s.peers.c) rfl rfl (by kernel_rfl) (by kernel_rfl) (by kernel_rfl) (fun _ _ _ h => h) (by rfl) (fun w_ hw => by have c : World.cell? _ ⟨p, 5, none⟩ = some (.slice s.peers.ad s.peers.n s.peers.c) := (A1.low hw).st.cell 5 (by omega); first | rfl | (go_simp; done) | (go_simp; rfl) | (go_simp; omega)) hHeld ?_
  simp only [Act.put, List.setIfInBounds_toArray, List.set_cons_zero, List.set_cons_succ]
  refine Cu.takeH 8 (some 13) (.pointer (some ⟨w.heap.size, 0, none⟩)) rfl rfl (by kernel_rfl) (by kernel_rfl) (by kernel_rfl) (fun _ _ _ h => h) (by rfl) (fun w_ hw => by first | rfl | (go_simp; done) | (go_simp; rfl) | (go_simp; omega)) hHeld ?_
  simp only [Act.put, List.setIfInBounds_toArray, List.set_cons_zero, List.set_cons_succ]
  refine Cu.takeH 9 (some 14) (.agg (tabv u.v 36)) rfl rfl (by kernel_rfl) (by kernel_rfl) (by kernel_rfl) (fun _ _ _ h => h) (by rfl) (fun w_ hw => run_load_at w_ 36 _ rfl (w.heap.size) 0 (by rfl) _ 36 _ ((r1.below hw r1.lt).at_ 0 (by omega) (fun i hi => by rw [Nat.zero_add])) Tryz.underlying36 rfl infoU) hHeld ?_
  simp only [Act.put, List.setIfInBounds_toArray, List.set_cons_zero, List.set_cons_succ]
  refine wpAnyH_ready (rs := [10]) (by kernel_rfl) (by simp) (AllReadyH.cons rfl (fun K hK => ?_) AllReadyH.nil)
  rw [if_pos (by rfl)]
  go_simp
  refine (HN.out _ hHeld).mono ?_
  rintro e wf ⟨rfl, hbq⟩
  try go_wp2_with fail
  refine hK.out _ _ (hHeld.trans (hbq.mono hHeld.size)) (fun hH => ?_)
  clear hK K hHeld
  have hHeld := hH
  clear hH
  refine Cu.takeH 11 (some 16) (.bool (R != 0)) rfl rfl (by kernel_rfl) (by kernel_rfl) (by kernel_rfl) (fun _ _ _ h => h) (by rfl) (fun w_ hw => by first | rfl | (go_simp; done) | (go_simp; rfl) | (go_simp; omega)) hHeld ?_
  simp only [Act.put, List.setIfInBounds_toArray, List.set_cons_zero, List.set_cons_succ]
  refine ⟨by kernel_rfl, ?_⟩
  refine NoPanic.normal ?_
  have A2 := A1.low hHeld
  have r2 := r1.below hHeld r1.lt
  have g2 : Below B w wf := g1.trans (hHeld.mono (Nat.le_trans hA.size b1.size))
  clear hHeld HN hwd hW1
  go_wp2
  go_ret
  exact ⟨rfl, g2, A2.kp⟩
set_option maxRecDepth 100000 in
set_option maxHeartbeats 40000000 in
theorem aOurs_yes [Inhabited S.Tbl] (u : Upd) (B p z : Nat) (s : St) (lo lp : List Upd) (ls : List Slot) (w : World) (hA : AB B p z s lo lp ls w) (zo : s.ours.n ≤ 140737488351232) (zp : s.peers.n ≤ 140737488351232) (hG : Glob num w) (h2B : 2 ≤ B) (h : nextA lo lp u = 0) : Calls Tryz.prog 128 #[.agg (tabv u.v 36), .pointer (some ⟨p, 0, none⟩)] w fun e w' => e = .returned (.bool true) ∧ Below B w w' ∧ ∃ x : Sl, AB B p z ⟨s.side, s.cap, s.bo, s.bp, x, s.peers, s.loc, s.rem, s.ack, s.ao, s.ap, s.so, s.sp, s.ho, s.hp, s.beh, s.p0, s.p1, s.sig, s.shelf, s.fail, s.closed⟩ (lo ++ [u]) lp ls w' := by
  obtain ⟨w1, hW1⟩ : ∃ wX, w.alloc (.cells (tabv u.v 36) 99) = wX := ⟨_, rfl⟩
  have r1 : Has w1 w.heap.size 99 u.v 36 := by rw [← hW1]; exact Has.new w 99 u.v 36 _ rfl
  have b1 : Below w.heap.size w w1 := by rw [← hW1]; exact (Below.refl w.heap.size w).alloc (Nat.le_refl _) _
  have A1 := hA.low b1
  have g1 : Below B w w1 := b1.mono hA.size
  have hne : w.heap.size ≠ p := by have := hA.st.lt; omega
  obtain ⟨R, hR⟩ : ∃ R, nextA lo lp u = R := ⟨_, rfl⟩
  have HN := hide (fun (wx : World) (hb : Below w1.heap.size w1 wx) => next_any num s.ours.ad s.peers.ad s.ours.n s.peers.n s.ours.c s.peers.c lo lp hA.os.o.sl.1 hA.os.p.sl.1 zo zp u wx (hG.below (g1.trans (hb.mono (Nat.le_trans hA.size b1.size))) h2B) (A1.low hb).os.o.sl.2.1 (A1.low hb).os.p.sl.2.1)
  rw [hR] at HN
  have hR2 : (R != 0) = false := by rw [← hR, h]; rfl
  have hlen : lo.length < 2048 := by
    unfold nextA at h
    by_cases h2 : 2048 ≤ lo.length
    · rw [if_pos h2] at h; cases h
    · omega
  clear h hR
  go_enter Tryz.func128, Tryz.ntmps128
  go_wp2
  refine wp_region_noPanic ?_
  refine wp_region_held_drew (S := fun wx => Below w1.heap.size w1 wx) (by kernel_rfl) ((Below.refl _ _).drew) (fun hHeld => ?_)
  generalize hwd : World.drew w1 = wd at hHeld ⊢
  refine Cu.takeH 0 (some 5) (.pointer (some ⟨p, 0, none⟩)) rfl rfl (by kernel_rfl) (by kernel_rfl) (by kernel_rfl) (fun _ _ _ h => h) (by rfl) (fun w_ hw => by first | rfl | (go_simp; done) | (go_simp; rfl) | (go_simp; omega)) hHeld ?_
  simp only [Act.put, List.setIfInBounds_toArray, List.set_cons_zero, List.set_cons_succ]
  refine Cu.takeH 1 (some 6) (.pointer (some ⟨p, 0, none⟩)) rfl rfl (by kernel_rfl) (by kernel_rfl) (by kernel_rfl) (fun _ _ _ h => h) (by rfl) (fun w_ hw => by first | rfl | (go_simp; done) | (go_simp; rfl) | (go_simp; omega)) hHeld ?_
  simp only [Act.put, List.setIfInBounds_toArray, List.set_cons_zero, List.set_cons_succ]
  refine Cu.takeH 2 (some 7) (.pointer (some ⟨p, 4, none⟩)) rfl rfl (by kernel_rfl) (by kernel_rfl) (by kernel_rfl) (fun _ _ _ h => h) (by rfl) (fun w_ hw => by first | rfl | (go_simp; done) | (go_simp; rfl) | (go_simp; omega)) hHeld ?_
  simp only [Act.put, List.setIfInBounds_toArray, List.set_cons_zero, List.set_cons_succ]
  refine Cu.takeH 3 (some 8) (.slice s.ours.ad s.ours.n s.ours.c) rfl rfl (by kernel_rfl) (by kernel_rfl) (by kernel_rfl) (fun _ _ _ h => h) (by rfl) (fun w_ hw => by have c : World.cell? _ ⟨p, 4, none⟩ = some (.slice s.ours.ad s.ours.n s.ours.c) := (A1.low hw).st.cell 4 (by omega); first | rfl | (go_simp; done) | (go_simp; rfl) | (go_simp; omega)) hHeld ?_
  simp only [Act.put, List.setIfInBounds_toArray, List.set_cons_zero, List.set_cons_succ]
  refine Cu.takeH 4 (some 9) (.pointer (some ⟨p, 0, none⟩)) rfl rfl (by kernel_rfl) (by kernel_rfl) (by kernel_rfl) (fun _ _ _ h => h) (by rfl) (fun w_ hw => by first | rfl | (go_simp; done) | (go_simp; rfl) | (go_simp; omega)) hHeld ?_
  simp only [Act.put, List.setIfInBounds_toArray, List.set_cons_zero, List.set_cons_succ]
  refine Cu.takeH 5 (some 10) (.pointer (some ⟨p, 0, none⟩)) rfl rfl (by kernel_rfl) (by kernel_rfl) (by kernel_rfl) (fun _ _ _ h => h) (by rfl) (fun w_ hw => by first | rfl | (go_simp; done) | (go_simp; rfl) | (go_simp; omega)) hHeld ?_
  simp only [Act.put, List.setIfInBounds_toArray, List.set_cons_zero, List.set_cons_succ]
  refine Cu.takeH 6 (some 11) (.pointer (some ⟨p, 5, none⟩)) rfl rfl (by kernel_rfl) (by kernel_rfl) (by kernel_rfl) (fun _ _ _ h => h) (by rfl) (fun w_ hw => by first | rfl | (go_simp; done) | (go_simp; rfl) | (go_simp; omega)) hHeld ?_
  simp only [Act.put, List.setIfInBounds_toArray, List.set_cons_zero, List.set_cons_succ]
  refine Cu.takeH 7 (some 12) (.slice s.peers.ad s.peers.n s.peers.c) rfl rfl (by kernel_rfl) (by kernel_rfl) (by kernel_rfl) (fun _ _ _ h => h) (by rfl) (fun w_ hw => by have c : World.cell? _ ⟨p, 5, none⟩ = some (.slice s.peers.ad s.peers.n s.peers.c) := (A1.low hw).st.cell 5 (by omega); first | rfl | (go_simp; done) | (go_simp; rfl) | (go_simp; omega)) hHeld ?_
  simp only [Act.put, List.setIfInBounds_toArray, List.set_cons_zero, List.set_cons_succ]
  refine Cu.takeH 8 (some 13) (.pointer (some ⟨w.heap.size, 0, none⟩)) rfl rfl (by kernel_rfl) (by kernel_rfl) (by kernel_rfl) (fun _ _ _ h => h) (by rfl) (fun w_ hw => by first | rfl | (go_simp; done) | (go_simp; rfl) | (go_simp; omega)) hHeld ?_
  simp only [Act.put, List.setIfInBounds_toArray, List.set_cons_zero, List.set_cons_succ]
  refine Cu.takeH 9 (some 14) (.agg (tabv u.v 36)) rfl rfl (by kernel_rfl) (by kernel_rfl) (by kernel_rfl) (fun _ _ _ h => h) (by rfl) (fun w_ hw => run_load_at w_ 36 _ rfl (w.heap.size) 0 (by rfl) _ 36 _ ((r1.below hw r1.lt).at_ 0 (by omega) (fun i hi => by rw [Nat.zero_add])) Tryz.underlying36 rfl infoU) hHeld ?_
  simp only [Act.put, List.setIfInBounds_toArray, List.set_cons_zero, List.set_cons_succ]
  refine wpAnyH_ready (rs := [10]) (by kernel_rfl) (by simp) (AllReadyH.cons rfl (fun K hK => ?_) AllReadyH.nil)
  rw [if_pos (by rfl)]
  go_simp
  refine (HN.out _ hHeld).mono ?_
  rintro e wf ⟨rfl, hbq⟩
  try go_wp2_with fail
  refine hK.out _ _ (hHeld.trans (hbq.mono hHeld.size)) (fun hH => ?_)
  clear hK K hHeld
  have hHeld := hH
  clear hH
  refine Cu.takeH 11 (some 16) (.bool (R != 0)) rfl rfl (by kernel_rfl) (by kernel_rfl) (by kernel_rfl) (fun _ _ _ h => h) (by rfl) (fun w_ hw => by first | rfl | (go_simp; done) | (go_simp; rfl) | (go_simp; omega)) hHeld ?_
  simp only [Act.put, List.setIfInBounds_toArray, List.set_cons_zero, List.set_cons_succ]
  refine ⟨by kernel_rfl, ?_⟩
  refine NoPanic.normal ?_
  have A2 := A1.low hHeld
  have r2 := r1.below hHeld r1.lt
  have g2 : Below B w wf := g1.trans (hHeld.mono (Nat.le_trans hA.size b1.size))
  clear hHeld HN hwd hW1
  go_wp2
  have A3 := A2.low (Below.refl wf.heap.size wf).drew
  have r3 : Has wf.drew w.heap.size 99 u.v 36 := r2
  have g3 : Below B w wf.drew := g2.drew
  obtain ⟨wd, hwd⟩ : ∃ wd, wf.drew = wd := ⟨_, rfl⟩
  rw [hwd] at A3 r3 g3
  obtain ⟨v4, w4, w5, RS, RA, O5, gr5, bl5, own5, hw4⟩ := appU_at wd B s.ours.v lo u A3.os.o (by have := A3.os.o.sl.1; omega) A3.size
  obtain ⟨x, rfl⟩ := slOf O5
  have ogn : s.ours.v.ownBlock ≠ some w.heap.size := fun e => by have := (hA.os.o.lt _ e).2; omega
  have p5 : Has w5 p 31 s.v 115 := A3.st.same (gr5 p A3.st.lt A3.np.1)
  have q5 : Has w5 w.heap.size 99 u.v 36 := r3.same (gr5 _ r3.lt ogn)
  have A6 := A3.appO O5 gr5 own5
  have g6 : Below B w (w5.setCell ⟨p, 4, none⟩ x.v) := (g3.trans bl5).setCell hA.hp _
  have d5 : w5.cell? ⟨p, 4, none⟩ = some (.slice s.ours.ad s.ours.n s.ours.c) := p5.cell 4 (by omega)
  have f5 := p5.frozen 4
  have RSH := hide RS
  have RAH : Hid ((Builtin.append_ #[27, 27] 27 #[.slice s.ours.ad s.ours.n s.ours.c, .slice (some ⟨wd.heap.size, 0, none⟩) 1 1]).run Tryz.prog w4 = .ok (.slice x.ad x.n x.c) w5) := RA
  have H4 := hide (show Has w4 p 31 s.v 115 ∧ Has w4 w.heap.size 99 u.v 36 by rw [hw4]; exact ⟨A3.st.old _, r3.old _⟩)
  clear RS RA O5 gr5 bl5 own5 hw4
  refine wp_region_noPanic ?_
  refine wp_region_T (S := fun wx => Has wx p 31 s.v 115 ∧ Has wx w.heap.size 99 u.v 36) 11 (by kernel_rfl) (by rw [hwd]; exact ⟨A3.st, r3⟩) (fun hHeld => ?_)
  rw [hwd] at hHeld ⊢
  refine takeT 0 (some 17) (.pointer (some ⟨p, 0, none⟩)) rfl rfl (by kernel_rfl) (by kernel_rfl) (by kernel_rfl) (by kernel_rfl) (by decide) (fun _ _ _ h => h) (by rfl) (fun w_ hw => by first | rfl | (go_simp; done) | (go_simp; rfl) | (go_simp; omega)) hHeld ?_
  simp only [Act.put, List.setIfInBounds_toArray, List.set_cons_zero, List.set_cons_succ]
  refine takeT 1 (some 18) (.pointer (some ⟨p, 0, none⟩)) rfl rfl (by kernel_rfl) (by kernel_rfl) (by kernel_rfl) (by kernel_rfl) (by decide) (fun _ _ _ h => h) (by rfl) (fun w_ hw => by first | rfl | (go_simp; done) | (go_simp; rfl) | (go_simp; omega)) hHeld ?_
  simp only [Act.put, List.setIfInBounds_toArray, List.set_cons_zero, List.set_cons_succ]
  refine takeT 2 (some 19) (.pointer (some ⟨p, 0, none⟩)) rfl rfl (by kernel_rfl) (by kernel_rfl) (by kernel_rfl) (by kernel_rfl) (by decide) (fun _ _ _ h => h) (by rfl) (fun w_ hw => by first | rfl | (go_simp; done) | (go_simp; rfl) | (go_simp; omega)) hHeld ?_
  simp only [Act.put, List.setIfInBounds_toArray, List.set_cons_zero, List.set_cons_succ]
  refine takeT 3 (some 20) (.pointer (some ⟨p, 4, none⟩)) rfl rfl (by kernel_rfl) (by kernel_rfl) (by kernel_rfl) (by kernel_rfl) (by decide) (fun _ _ _ h => h) (by rfl) (fun w_ hw => by first | rfl | (go_simp; done) | (go_simp; rfl) | (go_simp; omega)) hHeld ?_
  simp only [Act.put, List.setIfInBounds_toArray, List.set_cons_zero, List.set_cons_succ]
  refine takeT 4 (some 21) (.slice s.ours.ad s.ours.n s.ours.c) rfl rfl (by kernel_rfl) (by kernel_rfl) (by kernel_rfl) (by kernel_rfl) (by decide) (fun _ _ _ h => h) (by rfl) (fun w_ hw => by have c : World.cell? _ ⟨p, 4, none⟩ = some (.slice s.ours.ad s.ours.n s.ours.c) := hw.1.cell 4 (by omega); first | rfl | (go_simp; done) | (go_simp; rfl) | (go_simp; omega)) hHeld ?_
  simp only [Act.put, List.setIfInBounds_toArray, List.set_cons_zero, List.set_cons_succ]
  refine takeT 5 (some 22) (.pointer (some ⟨w.heap.size, 0, none⟩)) rfl rfl (by kernel_rfl) (by kernel_rfl) (by kernel_rfl) (by kernel_rfl) (by decide) (fun _ _ _ h => h) (by rfl) (fun w_ hw => by first | rfl | (go_simp; done) | (go_simp; rfl) | (go_simp; omega)) hHeld ?_
  simp only [Act.put, List.setIfInBounds_toArray, List.set_cons_zero, List.set_cons_succ]
  refine takeT 6 (some 23) (.agg (tabv u.v 36)) rfl rfl (by kernel_rfl) (by kernel_rfl) (by kernel_rfl) (by kernel_rfl) (by decide) (fun _ _ _ h => h) (by rfl) (fun w_ hw => run_load_at w_ 36 _ rfl (w.heap.size) 0 (by rfl) _ 36 _ (hw.2.at_ 0 (by omega) (fun i hi => by rw [Nat.zero_add])) Tryz.underlying36 rfl infoU) hHeld ?_
  simp only [Act.put, List.setIfInBounds_toArray, List.set_cons_zero, List.set_cons_succ]
  refine readyT 7 (by kernel_rfl) rfl (by rfl) (fun K hK => ?_)
  refine wpRun (v := .slice (some ⟨wd.heap.size, 0, none⟩) 1 1) (w' := w4) (by have := RSH.out; simp [execOp, this, Act.eval, Result.andThen]) ?_
  simp only [Act.put, List.setIfInBounds_toArray, List.set_cons_zero, List.set_cons_succ]
  refine hK.out _ _ (fun _ => H4.out) (fun hH => ?_)
  clear hHeld
  have hHeld := hH (by decide)
  clear hK K hH
  refine readyT 8 (by kernel_rfl) rfl (by rfl) (fun K hK => ?_)
  refine wpRun (v := .slice x.ad x.n x.c) (w' := w5) (by have := RAH.out; simp [execOp, resolve, invoke, builtin, this, Act.eval, Result.andThen]) ?_
  simp only [Act.put, List.setIfInBounds_toArray, List.set_cons_zero, List.set_cons_succ]
  refine hK.out _ _ (fun _ => ⟨p5, q5⟩) (fun hH => ?_)
  clear hHeld
  have hHeld := hH (by decide)
  clear hK K hH
  refine readyT 9 (by kernel_rfl) rfl (by rfl) (fun K hK => ?_)
  go_simp
  refine hK.out _ _ (fun _ => hHeld) (fun hH => ?_)
  clear hHeld
  have hHeld := hH (by decide)
  clear hK K hH
  refine readyT 10 (by kernel_rfl) rfl (by rfl) (fun K hK => ?_)
  go_simp
  refine hK.out _ _ (fun _ => hHeld) (fun hH => ?_)
  clear hHeld
  have hHeld := hH (by decide)
  clear hK K hH
  refine readyT 11 (by kernel_rfl) rfl (by rfl) (fun K hK => ?_)
  go_simp
  refine hK.out _ _ (fun x => absurd rfl x) (fun _ => ?_)
  clear hK K hHeld
  refine ⟨by kernel_rfl, ?_⟩
  refine NoPanic.normal ?_
  try go_wp2
  go_ret
  exact ⟨rfl, g6, x, A6⟩
end Go.Proofs.YtlohfoggcdaeiaaGreat
