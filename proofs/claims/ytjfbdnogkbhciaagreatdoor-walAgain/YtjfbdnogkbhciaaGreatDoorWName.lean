import Derived.RangeFuncWrites
import Derived.Test.YtjfbdnogkbhciaaGreatDoorModel
import Derived.RangeFuncLeaves
import Derived.RangeFuncCalls
import Derived.Shelf.RegionOpen
import Derived.WalkKit
import Derived.OwnWalkIn
import Derived.TacticsInMore
import Derived.LoopNIn
import Derived.LoopIn
import Derived.Test.YtjfbdnogkbhciaaGreatDoorWBase
/-
  A RANGE OVER A FUNCTION whose body may turn whatever the invariant says: the law's own two blocks (the deferred calls', the loop's record) are held by the invariant itself. After the proof of the guide's law for bodies that write maps; the kernel checks it.
-/
namespace Go.Proofs.YtjfbdnogkbhciaaGreatDoor
open Go.RowKit
def rangePost (I : Obj → Nat → World → Prop) (Ix : Code → Obj → World → Prop) (ob : Obj) (k : Nat) : Exit → Act → World → Prop
  | .normal, _, W' => I ob k W'
  | .ret, _, W' => Ix .ret ob W'
  | .exit id, _, W' => Ix (.exit id) ob W'
  | .goto t, _, W' => Ix (.goto t) ob W'
  | .panic _, _, _ => False
  | .outgrown, _, _ => False
theorem wp_rangeFunc_held {P : Program} {g : Operand} {ps : Array Tmp} {assign body : Code} {Q : Exit → Act → World → Prop} {a : Act} {w : World} (n : Nat) (h1 : 1 ≤ n)
    {gf : Nat} {lb : Array Value} (hg : a.eval g = .func (.func gf) #[] lb) (eg : ∀ args w, (callFunc gf args).run P w = .ok (.enter gf args) w)
    (encs : Nat → Array Value) (N : Nat) (hps : ∀ k, (encs k).size = ps.size)
    (I : Obj → Nat → World → Prop) (Ix : Code → Obj → World → Prop)
    (hI : ∀ ob k W, I ob k W → W.heap[w.heap.size + 1]? = some ob ∧ W.heap[w.heap.size]? = some (.deferred (some [])))
    (hIp : ∀ ob ob' k W, I ob k W → I ob' k (W.putObj (w.heap.size + 1) ob'))
    (hX : ∀ c ob W, Ix c ob W → W.heap[w.heap.size + 1]? = some ob ∧ W.heap[w.heap.size]? = some (.deferred (some [])))
    (hXp : ∀ c ob ob' W, Ix c ob W → Ix c ob' (W.putObj (w.heap.size + 1) ob'))
    (h0 : ∀ ob, I ob 0 ((w.alloc (.deferred (some []))).alloc ob))
    (hseq : ∀ (ob : Obj) (Jx : World → Prop),
      (∀ k W1, k < N → I ob k W1 → YieldAt Fence.wide (n - 1 - 1) P (w.heap.size + 1) (encs k) W1 fun e W' => (e = .returned (.bool true) ∧ I ob (k + 1) W') ∨ (e = .returned (.bool false) ∧ Jx W')) →
      ∀ W, I ob 0 W → CallsIn Fence.wide (n - 1) P gf (#[.func (.yield (w.heap.size + 1)) #[] #[]] ++ lb) W fun e W' => (∃ v, e = .returned v) ∧ (I ob N W' ∨ Jx W'))
    (a₁ : Nat → Act)
    (hassign : ∀ (k : Nat) (W : World) (K : Act → World → Prop), K (a₁ k) W →
      assign.wpIn (Fence.wide.inRound (w.heap.size + 1)) (n - 1 - 1) P (Exit.then K (fun _ _ _ => False)) { tmps := (ps.zip (encs k)).foldl (fun t (p, v) => t.setIfInBounds p v) a.tmps, defers := [] } W)
    (hbody : ∀ ob k W, k < N → I ob k W → body.wpIn (Fence.wide.inRound (w.heap.size + 1)) (n - 1 - 1) P (rangePost I Ix ob (k + 1)) (a₁ k) W)
    (hdone : ∀ ob W, I ob N W → Q .normal { a with defers := { target := .collected w.heap.size, args := #[] } :: a.defers } W)
    (hstop : ∀ c ob W, Ix c ob W → c.wpIn Fence.wide n P Q { a with defers := { target := .collected w.heap.size, args := #[] } :: a.defers } W) :
    (Code.rangeFunc g ps assign body).wpIn Fence.wide n P Q a w := by
  refine wpIn_rangeFunc ?_
  intro fn hfn
  rw [show Fence.wide.round = none from rfl]
  obtain ⟨rec, hrec⟩ : ∃ rec : LoopState → Option Code → Loop, rec = fun st pe => { state := st, pending := pe, fn, tmps := a.tmps, params := ps, assign, body, defers := w.heap.size } := ⟨_, rfl⟩
  obtain ⟨W1, hW1⟩ : ∃ W1, (w.alloc (.deferred (some []))).alloc (.loop (rec .ready none)) = W1 := ⟨_, rfl⟩
  have hI1 : I (.loop (rec .ready none)) 0 W1 := by rw [← hW1]; exact h0 _
  refine ⟨w.heap.size + 1, [{ target := .collected w.heap.size, args := #[] }], W1, { target := .fn (.func gf) lb, args := #[.func (.yield (w.heap.size + 1)) #[] #[]] }, W1, gf,
    #[.func (.yield (w.heap.size + 1)) #[] #[]] ++ lb, W1, ?_, ?_, ?_, ?_, fun _ => h1, ?_⟩
  · rw [← hW1, hrec]; exact run_enterLoop_outer _ _ _ _ _
  · simp only [resolve, hg]
    simp [go_sem]
  · intro f' hf'; trivial
  · simp [invoke, go_sem, eg]
  · refine (hseq (.loop (rec .ready none)) (fun W => ∃ c, Ix c (.loop (rec .done (some c))) W) ?_ W1 hI1).mono ?_
    · intro k W hk hi
      obtain ⟨hl, hd⟩ := hI _ _ _ hi
      have hy := run_yield (P := P) (args := encs k) hl (by rw [hrec]; exact hps k)
      rw [hrec] at hy
      refine ⟨fn, _, assign, body, hy, roundIn_of_wpIn hfn (hassign k W _ ⟨_, run_beginRound hl (by rw [hrec]), ?_⟩)⟩
      refine wpIn_mono (hbody (.loop { rec .ready none with state := .busy }) k _ hk (hIp _ _ _ _ hi)) ?_
      have fin : ∀ (jump : Option Code) (W3 : World), W3.heap[w.heap.size + 1]? = some (.loop { rec .ready none with state := .busy }) →
          (Instr.endRound (w.heap.size + 1) jump).run P W3 = .ok (.bool jump.isNone) (W3.putObj (w.heap.size + 1) (.loop (rec (if jump.isNone then .ready else .done) jump))) := fun jump W3 hl3 => by
        have := run_endRound (P := P) jump hl3
        rw [hrec] at this ⊢
        exact this
      rintro e a3 W3 hp
      cases e with
      | normal => exact ⟨_, _, fin none W3 (hI _ _ _ hp).1, .inl ⟨rfl, hIp _ _ _ _ hp⟩⟩
      | ret => exact ⟨_, _, fin (some .ret) W3 (hX _ _ _ hp).1, .inr ⟨rfl, .ret, hXp _ _ _ _ hp⟩⟩
      | exit id => exact ⟨_, _, fin (some (.exit id)) W3 (hX _ _ _ hp).1, .inr ⟨rfl, .exit id, hXp _ _ _ _ hp⟩⟩
      | goto t => exact ⟨_, _, fin (some (.goto t)) W3 (hX _ _ _ hp).1, .inr ⟨rfl, .goto t, hXp _ _ _ _ hp⟩⟩
      | panic ch => exact hp.elim
      | outgrown => exact hp.elim
    · rintro e W2 ⟨⟨v, rfl⟩, (hi | ⟨c, hi⟩)⟩
      · exact ⟨none, _, by have := run_endLoop (P := P) (hI _ _ _ hi).1 (by rw [hrec]; simp); rw [hrec] at this; exact this, hdone _ _ (hIp _ _ _ _ hi)⟩
      · exact ⟨some c, _, by have := run_endLoop (P := P) (hX _ _ _ hi).1 (by rw [hrec]; simp); rw [hrec] at this; exact this, hstop c _ _ (hXp _ _ _ _ hi)⟩
end Go.Proofs.YtjfbdnogkbhciaaGreatDoor
/-
  inOrder: the segments one behind the other, told to a loop's body.
-/
namespace Go.Proofs.YtjfbdnogkbhciaaGreatDoor
open Go.RowKit
set_option linter.unusedVariables false
attribute [local go_sem] Oper.semAt_some
theorem inOrder_any (l : Nat) (w : World) : Calls Tryz.prog 38 #[.pointer (some ⟨l, 0, none⟩)] w fun e w' => e = .returned (.func (.func 72) #[] #[.pointer (some ⟨w.heap.size, 0, none⟩)]) ∧ w' = w.alloc (.cells #[.pointer (some ⟨l, 0, none⟩)] 33) := by
  go_enter Tryz.func38, Tryz.ntmps38
  go_wp2
  go_ret
  exact ⟨rfl, rfl⟩
/-- What the iterator reads between the rounds. -/
structure View (bx l : Nat) (ad : Option Addr) (b off N cap : Nat) (nums : Nat → Int) (W : World) : Prop where
  box : W.cell? ⟨bx, 0, none⟩ = some (.pointer (some ⟨l, 0, none⟩))
  c3 : W.cell? ⟨l, 3, none⟩ = some (.slice ad N cap)
  seg : ∀ k, k < N → ∃ z f, W.cell? ⟨b, off + k * 3, none⟩ = some (.int .i64 (nums k)) ∧ W.cell? ⟨b, off + k * 3 + 1, none⟩ = some (.int .i64 z) ∧ W.cell? ⟨b, off + k * 3 + 2, none⟩ = some (.int .i64 f)
def encs (b off : Nat) (F : Nat → ByteArray) (k : Nat) : Array Value := #[.pointer (some ⟨b, off + k * 3, none⟩), .string (F k)]
theorem two_ways {e : Ending} {p q : Prop} (h : (e = .returned (.bool true) ∧ p) ∨ (e = .returned (.bool false) ∧ q)) : ∃ bb, e = .returned (.bool bb) ∧ ((bb = true ∧ p) ∨ (bb = false ∧ q)) := by
  rcases h with ⟨h, k⟩ | ⟨h, k⟩
  · exact ⟨true, h, .inl ⟨rfl, k⟩⟩
  · exact ⟨false, h, .inr ⟨rfl, k⟩⟩
set_option maxRecDepth 100000 in
set_option maxHeartbeats 2000000 in
theorem iter_in (m y : Nat) (hm : 1 ≤ m) (bx l b off N cap : Nat) (ad : Option Addr) (had : 0 < N → ad = some ⟨b, off, none⟩) (hN : N ≤ 10000000) (nums : Nat → Int) (F : Nat → ByteArray) (I : Nat → World → Prop) (Jx : World → Prop)
    (hv : ∀ k W, I k W → View bx l ad b off N cap nums W)
    (hs : ∀ k W W', I k W → Below W.heap.size W W' → I k W')
    (hfile : ∀ k W z f, k < N → I k W → Calls Tryz.prog 70 #[.pointer (some ⟨l, 0, none⟩), .agg #[.int .i64 (nums k), .int .i64 z, .int .i64 f]] W fun e W' => e = .returned (.string (F k)) ∧ Below W.heap.size W W')
    (hY : ∀ k W, k < N → I k W → YieldAt Fence.wide (m - 1) Tryz.prog y (encs b off F k) W fun e W' => (e = .returned (.bool true) ∧ I (k + 1) W') ∨ (e = .returned (.bool false) ∧ Jx W'))
    (W : World) (h0 : I 0 W) :
    CallsIn Fence.wide m Tryz.prog 72 #[.func (.yield y) #[] #[], .pointer (some ⟨bx, 0, none⟩)] W fun e W' => (∃ v, e = .returned v) ∧ (I N W' ∨ Jx W') := by
  have hvw := hv 0 W h0
  have hc0 := hvw.box
  have hc3 := hvw.c3
  refine callsIn_of_wp Tryz.func72 rfl trivial ?_ rfl
  simp only [Tryz.ntmps72, List.size_toArray, List.length_cons, List.length_nil, Nat.reduceAdd, Nat.reduceSub, Array.replicate_succ, Array.replicate_zero, List.push_toArray, List.append_toArray, List.nil_append, List.cons_append]
  gi_wp2
  gi_loopw [10] (fun i wr => ∃ k : Nat, k ≤ N ∧ i = .int .i64 (k : Int) ∧ I k wr) (fun i _ => N - (intOf i).toNat)
  case atStart => exact ⟨0, by omega, rfl, h0⟩
  case round =>
    clear hvw hc0 hc3
    obtain ⟨k, hk, rfl, hi⟩ := hrel
    by_cases hlt : k < N
    · have dk : decide ((k : Int) < (N : Int)) = true := decide_eq_true (by omega)
      have hk0 : (0 : Int) ≤ (k : Int) := by omega
      have hk1 : (k : Int) < (N : Int) := by omega
      have hvk := hv k wr hi
      obtain rfl := had (by omega)
      have hc0 := hvk.box
      have hc3 := hvk.c3
      obtain ⟨z, f, s0, s1, s2⟩ := hvk.seg k hlt
      have hmx : Tryz.prog.follows .mixedOrders = true := by kernel_rfl
      have h70 : Fence.wide.fn 70 := trivial
      have hid : I k wr.drew := hs k wr _ hi (Below.refl _ _).drew
      gi_wp2
      gi_region_with_o (first | (gi_at_call 70; refine ((callsIn_wide (n := _)).2 (hfile k _ z f hlt hid)).mono ?_; rintro e w1 ⟨rfl, hb1⟩; obtain ⟨fn, tmps, asg, bdy, hy, hR⟩ := hY k w1 hlt (hs k _ _ hid hb1); unfold encs at hy) | (refine hR.mono ?_; rintro e W3 hW3; obtain ⟨bb, rfl, hbb⟩ := two_ways hW3))
      all_goals
      · rcases hbb with ⟨rfl, hi3⟩ | ⟨rfl, hx3⟩
        · gi_wp2
          go_roundw
          case rel => exact ⟨k + 1, by omega, by go_num, hi3⟩
          case measure => simp [intOf]; omega
        · gi_wp2
          refine bodyPost_ret (results_none rfl _ _ _) rfl ?_
          exact ⟨⟨_, rfl⟩, .inr hx3⟩
    · have hkn : k = N := by omega
      subst hkn
      have dk : decide ((k : Int) < (k : Int)) = false := decide_eq_false (by omega)
      gi_wp2
      go_end0
      exact ⟨⟨_, rfl⟩, .inl hi⟩
end Go.Proofs.YtjfbdnogkbhciaaGreatDoor
/-
  A log whose slice of segments is named; the two blocks of a range over a function, held beside the rest.
-/
namespace Go.Proofs.YtjfbdnogkbhciaaGreatDoor
open Go.RowKit
set_option linter.unusedVariables false
def Item.logv (l p : Nat) (g : AL) (v : Value) : Item := ⟨fun w S => ∃ r, LogAt w l p g v r ∧ ∀ b, S b ↔ logFoot l r b, fun w S ⟨r, h, hS⟩ b hb => h.lt b ((hS b).1 hb), fun w w' S ⟨r, h, hS⟩ e => ⟨r, h.same (fun b hb => e b ((hS b).2 hb)), hS⟩⟩
section
variable {B : Nat} {w : World} {L : List Item} {i j l p : Nat} {g : AL} {v : Value}
theorem Lies.pin (h : Lies B w L) (hj : L[j]? = some (.log l p g)) : ∃ v, Lies B w (L.set j (.logv l p g v)) := by
  obtain ⟨S, ⟨v, r, hat, hS⟩, hB, _, hu⟩ := h.upd hj
  exact ⟨v, (hu w (.logv l p g v) S ⟨r, hat, hS⟩ (Step.refl _ _)).1⟩
theorem Lies.unpin (h : Lies B w L) (hj : L[j]? = some (.logv l p g v)) : Lies B w (L.set j (.log l p g)) := by
  obtain ⟨S, ⟨r, hat, hS⟩, hB, _, hu⟩ := h.upd hj
  exact (hu w (.log l p g) S ⟨v, r, hat, hS⟩ (Step.refl _ _)).1
theorem Lies.logv (h : Lies B w L) (hj : L[j]? = some (.logv l p g v)) : ∃ r, LogAt w l p g v r ∧ B ≤ l := by
  obtain ⟨S, ⟨r, hat, hS⟩, hB⟩ := h.get hj
  exact ⟨r, hat, hB l ((hS l).2 (.inl rfl))⟩
theorem Lies.atBlock {q b : Nat} {ob : Obj} (h : Lies B w L) (hi : L[q]? = some (.block b ob)) : w.heap[b]? = some ob := by
  obtain ⟨S, hp, _⟩ := h.get hi
  exact hp.1
theorem Lies.toBlock {q b : Nat} {ob ob' : Obj} {w' : World} (h : Lies B w L) (hi : L[q]? = some (.block b ob)) (hn : w'.heap[b]? = some ob') (ht : Turn (fun x => x = b) w w') : Lies B w' (L.set q (.block b ob')) ∧ Below B w w' := by
  obtain ⟨S, hp, hB, _, hk⟩ := h.upd hi
  exact hk w' (.block b ob') (fun x => x = b) ⟨hn, fun _ => Iff.rfl⟩ ⟨ht.mono (fun x hx => (hp.2 x).2 hx), fun x hx => .inl ((hp.2 x).2 hx)⟩
theorem turn_putObj (w : World) (b : Nat) (ob : Obj) : Turn (fun x => x = b) w (w.putObj b ob) :=
  ⟨rfl, rfl, rfl, by simp [World.putObj], fun x _ hn => World.putObj_heap_other hn⟩
theorem Lies.newCells (h : Lies B w L) (cs : Array Value) (T : TypeId) : Lies B (w.alloc (.cells cs T)) (L ++ [.block w.heap.size (.cells cs T (0, 0))]) ∧ Below B w (w.alloc (.cells cs T)) :=
  ⟨h.push (S' := fun x => x = w.heap.size) ((Below.refl _ _).alloc (Nat.le_refl _) _) ⟨heap_alloc_new w _, fun _ => Iff.rfl⟩ (fun x hx => by rw [hx]; exact Nat.le_refl _), (Below.refl _ _).alloc h.base _⟩
theorem get_tail {α : Type} (M X : List α) (n : Nat) : (M ++ X)[M.length + n]? = X[n]? := by rw [List.getElem?_append_right (by omega), Nat.add_sub_cancel_left]
theorem get_head {α : Type} {M X : List α} {q : Nat} {y : α} (h : M[q]? = some y) : (M ++ X)[q]? = some y := by
  rw [List.getElem?_append_left (List.getElem?_eq_some_iff.1 h).1]; exact h
theorem Lies.cellAt {q b : Nat} {cs : Array Value} {T : TypeId} (h : Lies B w L) (hi : L[q]? = some (.block b (.cells cs T (0, 0)))) (k : Nat) : w.cell? ⟨b, k, none⟩ = cs[k]? := cell_of_row w b k _ _ (0, 0) (h.atBlock hi)
theorem Lies.frozenAt {q b : Nat} {cs : Array Value} {T : TypeId} (h : Lies B w L) (hi : L[q]? = some (.block b (.cells cs T (0, 0)))) (k : Nat) : w.frozen? ⟨b, k, none⟩ = false := frozen_of_row w b k _ _ (h.atBlock hi)
/-- A cell of a held block is stored anew. -/
theorem Lies.setAt {q b : Nat} {cs : Array Value} {T : TypeId} (h : Lies B w L) (hi : L[q]? = some (.block b (.cells cs T (0, 0)))) (k : Nat) (x : Value) : Lies B (w.setCell ⟨b, k, none⟩ x) (L.set q (.block b (.cells (cs.setIfInBounds k x) T (0, 0)))) ∧ Below B w (w.setCell ⟨b, k, none⟩ x) :=
  h.toBlock hi (heap_setCell_same w b k _ _ x (h.atBlock hi)) (Turn.setCell w ⟨b, k, none⟩ x)
/-- Some of the items. -/
theorem Lies.choose {M : List Item} (h : Lies B w L) (f : Nat → Nat) (hf : ∀ i j, i < M.length → j < M.length → f i = f j → i = j) (hM : ∀ i (x : Item), M[i]? = some x → L[f i]? = some x) : Lies B w M := by
  obtain ⟨hb, S, h1, h2, h3⟩ := h
  have lt : ∀ i, i < M.length → f i < L.length := fun i hi => (List.getElem?_eq_some_iff.1 (hM i M[i] (List.getElem?_eq_getElem hi))).1
  exact ⟨hb, fun i => S (f i), fun i x hi => h1 (f i) x (hM i x hi), fun i b hi hs => h2 (f i) b (lt i hi) hs, fun i j b hi hj hne => h3 (f i) (f j) b (lt i hi) (lt j hj) (fun e => hne (hf i j hi hj e))⟩
/-- The head, and one of what is behind it. -/
theorem Lies.keep1 {X : List Item} {n : Nat} {x : Item} (h : Lies B w (L ++ X)) (hx : X[n]? = some x) : Lies B w (L ++ [x]) := by
  refine h.choose (fun i => if i < L.length then i else L.length + n) (fun i j hi hj e => ?_) (fun i y hy => ?_)
  · simp only [List.length_append, List.length_singleton] at hi hj
    by_cases h1 : i < L.length
    · by_cases h2 : j < L.length
      · simpa [h1, h2] using e
      · simp only [h1, h2, if_true, if_false] at e; omega
    · by_cases h2 : j < L.length
      · simp only [h1, h2, if_true, if_false] at e; omega
      · omega
  · by_cases h1 : i < L.length
    · simp only [h1, if_true]
      rw [List.getElem?_append_left h1] at hy ⊢
      exact hy
    · simp only [h1, if_false]
      have hl := (List.getElem?_eq_some_iff.1 hy).1
      simp only [List.length_append, List.length_singleton] at hl
      have : i = L.length + 0 := by omega
      subst this
      rw [get_tail] at hy ⊢
      rw [hx]
      simpa using hy
/-! ### the law's two blocks, at the end of the list -/
theorem held_get {D P : Nat} {d ob : Obj} (h : Lies B w (L ++ [.block D d, .block P ob])) : w.heap[P]? = some ob ∧ w.heap[D]? = some d :=
  ⟨h.atBlock (q := L.length + 1) (by rw [List.getElem?_append_right (by omega)]; simp), h.atBlock (q := L.length) (by rw [List.getElem?_append_right (by omega)]; simp)⟩
theorem held_put {D P : Nat} {d ob : Obj} (ob' : Obj) (h : Lies B w (L ++ [.block D d, .block P ob])) : Lies B (w.putObj P ob') (L ++ [.block D d, .block P ob']) ∧ Below B w (w.putObj P ob') := by
  have hg := (held_get h).1
  have := h.toBlock (q := L.length + 1) (b := P) (ob := ob) (ob' := ob') (by rw [List.getElem?_append_right (by omega)]; simp) (World.putObj_heap_same (Array.getElem?_eq_some_iff.1 hg).1) (turn_putObj w P ob')
  rw [List.set_append_right _ _ (by omega), Nat.add_sub_cancel_left] at this
  exact this
theorem held_new (h : Lies B w L) (d ob : Obj) : Lies B ((w.alloc d).alloc ob) (L ++ [.block w.heap.size d, .block (w.heap.size + 1) ob]) ∧ Below B w ((w.alloc d).alloc ob) := by
  have e1 : (w.alloc d).heap[w.heap.size]? = some d := World.alloc_heap_new w d
  have h1 : Lies B (w.alloc d) (L ++ [.block w.heap.size d]) := h.push (S' := fun b => b = w.heap.size) ((Below.refl _ _).alloc (Nat.le_refl _) _) ⟨e1, fun _ => Iff.rfl⟩ (fun b hb => by rw [hb]; exact Nat.le_refl _)
  have hz : (w.alloc d).heap.size = w.heap.size + 1 := World.size_alloc w d
  have e2 : ((w.alloc d).alloc ob).heap[w.heap.size + 1]? = some ob := by
    have := World.alloc_heap_new (w.alloc d) ob
    rwa [hz] at this
  have h2 := h1.push (it := .block (w.heap.size + 1) ob) (S' := fun b => b = w.heap.size + 1) ((Below.refl (w.alloc d).heap.size (w.alloc d)).alloc (Nat.le_refl _) ob) ⟨e2, fun _ => Iff.rfl⟩ (fun b hb => by rw [hb, hz]; exact Nat.le_refl _)
  rw [List.append_assoc] at h2
  exact ⟨h2, (((Below.refl _ _).alloc (Nat.le_refl _) d).alloc (by rw [hz]; omega) ob).mono h.base⟩
/-- Behind the loop the two blocks are let go. -/
theorem held_drop {D P : Nat} {d ob : Obj} (h : Lies B w (L ++ [.block D d, .block P ob])) (d' : Obj) : Lies B (w.putObj D d') L ∧ Below B w (w.putObj D d') := by
  have hg := (held_get h).2
  obtain ⟨h1, h2⟩ := h.toBlock (q := L.length) (b := D) (ob := d) (ob' := d') (by rw [List.getElem?_append_right (by omega)]; simp) (World.putObj_heap_same (Array.getElem?_eq_some_iff.1 hg).1) (turn_putObj w D d')
  rw [List.set_append_right _ _ (by omega), Nat.sub_self] at h1
  exact ⟨Lies.drop (M := [.block D d', .block P ob]) h1, h2⟩
end
end Go.Proofs.YtjfbdnogkbhciaaGreatDoor
/-
  A log's name.
-/
namespace Go.Proofs.YtjfbdnogkbhciaaGreatDoor
open Go.RowKit Go.Maps
def lnameOk (k : Key) : Bool := decide (1 ≤ k.length) && decide (k.length ≤ 24) && k.all chOk
theorem lnameOk_eq (l : Key) : lnameOk l = (decide (1 ≤ l.length) && decide (l.length ≤ 24) && l.all chOk) := rfl
set_option maxHeartbeats 800000 in
theorem wName_any (s : ByteArray) (w : World) : Calls Tryz.prog 36 #[.string s] w fun e w' => e = .returned (.bool (lnameOk s.data.toList)) ∧ w' = w := by
  rw [lnameOk_eq, str_len]
  by_cases h1 : s.size < 1
  · have hd : decide ((s.size : Int) < 1) = true := decide_eq_true (by omega)
    have hn : (decide (1 ≤ s.size) && decide (s.size ≤ 24) && s.data.toList.all chOk) = false := by
      rw [decide_eq_false (by omega : ¬ 1 ≤ s.size)]; rfl
    rw [hn]
    go_enter Tryz.func36, Tryz.ntmps36
    go_wp2
    go_ret
    exact ⟨rfl, rfl⟩
  · have hd : decide ((s.size : Int) < 1) = false := decide_eq_false (by omega)
    by_cases h2 : 24 < s.size
    · have hd2 : decide ((24 : Int) < (s.size : Int)) = true := decide_eq_true (by omega)
      have hn : (decide (1 ≤ s.size) && decide (s.size ≤ 24) && s.data.toList.all chOk) = false := by
        rw [decide_eq_false (by omega : ¬ s.size ≤ 24), Bool.and_false]; rfl
      rw [hn]
      go_enter Tryz.func36, Tryz.ntmps36
      go_wp2
      go_ret
      exact ⟨rfl, rfl⟩
    · have hd2 : decide ((24 : Int) < (s.size : Int)) = false := decide_eq_false (by omega)
      have hn : (decide (1 ≤ s.size) && decide (s.size ≤ 24) && s.data.toList.all chOk) = s.data.toList.all chOk := by
        rw [decide_eq_true (by omega : 1 ≤ s.size), decide_eq_true (by omega : s.size ≤ 24)]; rfl
      rw [hn]
      obtain ⟨n, hsn⟩ : ∃ n, s.size = n := ⟨_, rfl⟩
      have hn24 : n ≤ 24 := by omega
      have HL : Hid (s.data.toList.length = n) := by show _ = _; rw [str_len, hsn]
      have HG : Hid (∀ i, i < n → s[i]? = some (byteAt s.data.toList i)) := fun i hi => str_get s i (by omega)
      clear hn h1 h2
      rw [hsn] at hd hd2
      go_enter Tryz.func36, Tryz.ntmps36
      go_wp2
      go_loopw [14] (fun i wr => ∃ k : Nat, k ≤ n ∧ i = .int .i64 (k : Int) ∧ (∀ j, j < k → chOk (byteAt s.data.toList j) = true) ∧ wr = w) (fun i _ => n - (intOf i).toNat)
      case atStart => exact ⟨0, by omega, rfl, fun j hj => absurd hj (by omega), rfl⟩
      case round =>
        obtain ⟨k, hk, rfl, hall, rfl⟩ := hrel
        have HA := hide hall
        clear hall
        by_cases hlt : k < n
        · have hx : ∀ w' : World, (Instr.index 9 (.string s) (.int .i64 (k : Int))).run Tryz.prog w' = .ok (.int .u8 ((byteAt s.data.toList k).toNat : Int)) w' := fun w' => run_index_str w' s .i64 k _ (HG.out k hlt)
          have hd3 : decide ((k : Int) < (n : Int)) = true := decide_eq_true (by omega)
          obtain ⟨c, hc⟩ : ∃ c, byteAt s.data.toList k = c := ⟨_, rfl⟩
          rw [hc] at hx
          have HC := hide hc
          clear hc
          by_cases b1 : c.toNat < 33
          · have e1 : decide ((c.toNat : Int) < 33) = true := decide_eq_true (by omega)
            have HB : Hid (s.data.toList.all chOk = false) := by
              show _ = false
              rw [← Bool.not_eq_true, all_at]
              intro h
              have := h k (by rw [HL.out]; exact hlt)
              rw [HC.out] at this
              simp [chOk] at this
              omega
            go_wp2
            go_ret
            exact ⟨by rw [HB.out]; rfl, rfl⟩
          · have e1 : decide ((c.toNat : Int) < 33) = false := decide_eq_false (by omega)
            by_cases b2 : 126 < c.toNat
            · have e2 : decide ((126 : Int) < (c.toNat : Int)) = true := decide_eq_true (by omega)
              have HB : Hid (s.data.toList.all chOk = false) := by
                show _ = false
                rw [← Bool.not_eq_true, all_at]
                intro h
                have := h k (by rw [HL.out]; exact hlt)
                rw [HC.out] at this
                simp [chOk] at this
                omega
              go_wp2
              go_ret
              exact ⟨by rw [HB.out]; rfl, rfl⟩
            · have e2 : decide ((126 : Int) < (c.toNat : Int)) = false := decide_eq_false (by omega)
              have HB : Hid (chOk c = true) := by show _ = true; simp [chOk]; omega
              clear b1 b2
              go_wp2
              go_roundw
              case rel =>
                refine ⟨k + 1, by omega, by go_num, fun j hj => ?_, by first | rfl | trivial⟩
                by_cases e : j = k
                · rw [e, HC.out]; exact HB.out
                · exact HA.out j (by omega)
              case measure => simp [intOf]; omega
        · have hkn : k = n := by omega
          subst hkn
          have hd3 : decide ((k : Int) < (k : Int)) = false := decide_eq_false (by omega)
          have HB : Hid (s.data.toList.all chOk = true) := by
            show _ = true
            rw [all_at]
            intro i hi
            rw [HL.out] at hi
            exact HA.out i hi
          go_wp2
          go_ret
          exact ⟨by rw [HB.out]; rfl, rfl⟩
end Go.Proofs.YtjfbdnogkbhciaaGreatDoor
