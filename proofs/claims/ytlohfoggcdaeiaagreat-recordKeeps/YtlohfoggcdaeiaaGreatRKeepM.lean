import Derived.Test.YtlohfoggcdaeiaaGreatROpenS
import Derived.Test.YtlohfoggcdaeiaaGreatROpenA
import Derived.BigQuiet
import Derived.Deep.QuietTactic
/-
  What is opened of the arguments stays while memory only grows (by hand).
-/
namespace Go.Proofs.YtlohfoggcdaeiaaGreat
open Go.RowKit S
set_option linter.unusedVariables false
set_option linter.unusedSimpArgs false
theorem Slots.belowW {w w' : World} {ad : Option Addr} {l : List Slot} (h : Slots w ad l) (hb : Below w.heap.size w w') : Slots w' ad l := by
  rcases h with rfl | ⟨b, o, h1, h2, h3⟩
  · exact .inl rfl
  · exact .inr ⟨b, o, h1, Nat.lt_of_lt_of_le h2 hb.size, fun i s hs j hj => (hb.cell (p := ⟨b, o + i * 34 + j, none⟩) h2).trans (h3 i s hs j hj)⟩
theorem StAt.below {w w' : World} {s : St} {lo lp : List Upd} {ls : List Slot} (h : StAt w s lo lp ls) (hb : Below w.heap.size w w') : StAt w' s lo lp ls :=
  ⟨h.no, h.np, h.ns, h.o.below hb, h.p.below hb, h.f.belowW hb, h.co, h.cp, h.zo, h.zp, h.zs⟩
theorem Recs.below {w w' : World} {ad : Option Addr} {rs : List (Rc × List Upd)} (h : Recs w ad rs) (hb : Below w.heap.size w w') : Recs w' ad rs := by
  rcases h with rfl | ⟨b, o, h1, h2, h3⟩
  · exact .inl rfl
  · refine .inr ⟨b, o, h1, Nat.lt_of_lt_of_le h2 hb.size, fun i r hr => ?_⟩
    obtain ⟨k1, k2, k3, k4⟩ := h3 i r hr
    exact ⟨fun j hj => (hb.cell (p := ⟨b, o + i * 138 + j, none⟩) h2).trans (k1 j hj), k2, k3.below hb, k4⟩
theorem Recs.get {w : World} {ad : Option Addr} {rs : List (Rc × List Upd)} (h : Recs w ad rs) {i : Nat} {r : Rc × List Upd} (hr : rs[i]? = some r) : ∃ b off, ad = some ⟨b, off, none⟩ ∧ b < w.heap.size ∧ At w b (off + i * 138) r.1.v 138 ∧ r.2.length = r.1.upds.n ∧ Upds w r.1.upds.ad r.2 ∧ r.1.upds.n ≤ r.1.upds.c ∧ r.1.upds.c * 72 ≤ 140737488351232 := by
  rcases h with rfl | ⟨b, o, h1, h2, h3⟩
  · simp at hr
  · obtain ⟨k1, k2, k3⟩ := h3 i r hr
    exact ⟨b, o, h1, h2, k1, k2, k3⟩
end Go.Proofs.YtlohfoggcdaeiaaGreat
/-
  RecordKeeps: sameList, rises, sound (printed by gen_r15.py).
-/
namespace Go.Proofs.YtlohfoggcdaeiaaGreat
open Go.RowKit S
set_option linter.unusedVariables false
set_option linter.unusedSimpArgs false
open Cu (nb be hl ofL CW Mw CR Mr RS takeS takeA hOf nil8 doneS)
set_option maxRecDepth 100000 in
set_option maxHeartbeats 1000000 in
theorem sameL_any (ad1 ad2 : Option Addr) (n c1 c2 : Nat) (l : List Upd) (hn : l.length = n) (hz : n ≤ 140737488351232) (w : World) (h1 : Upds w ad1 l) (h2 : Upds w ad2 l) : Calls Tryz.prog 14 #[.slice ad1 n c1, .slice ad2 n c2] w fun e w' => e = .returned (.bool true) ∧ Below w.heap.size w w' := by
  have hni : (n : Int) ≤ 140737488351232 := by omega
  have hd0 : ((n : Int) != (n : Int)) = false := by simp
  have hgs := guardU
  have HN := hide hn
  clear hn
  go_enter Tryz.func14, Tryz.ntmps14
  go_wp2
  go_loopw [5] (fun i wr => ∃ j : Nat, j ≤ n ∧ i = .int .i64 (j : Int) ∧ Below w.heap.size w wr) (fun i _ => n - (intOf i).toNat)
  case atStart => exact ⟨0, Nat.zero_le _, rfl, Below.refl _ _⟩
  case round =>
    obtain ⟨j, hj, rfl, hwk⟩ := hrel
    have h1' := h1.below hwk
    have h2' := h2.below hwk
    by_cases hlt : j < n
    · have hd : decide ((j : Int) < (n : Int)) = true := decide_eq_true (by omega)
      have hd2 : decide (j < n) = true := decide_eq_true hlt
      have hk0 : (0 : Int) ≤ (j : Int) := by omega
      have hk1 : (j : Int) < (n : Int) := by omega
      obtain ⟨s, hs⟩ : ∃ s, l[j]? = some s := ⟨_, List.getElem?_eq_getElem (by rw [HN.out]; exact hlt)⟩
      obtain ⟨b1, o1, rfl, hb1, hA1⟩ := h1'.get j s hs
      obtain ⟨b2, o2, rfl, hb2, hA2⟩ := h2'.get j s hs
      have hqs : ∀ w : World, (Op.equalIn 10000 36 (.agg (tabv s.v 36)) (.agg (tabv s.v 36))).run Tryz.prog w = .ok true w := fun w => by rw [eqUD, eqU_refl]
      have HA1 := hide hA1
      have HA2 := hide hA2
      clear hA1 hA2 hb1 hb2 hs h1' h2'
      go_wp2
      refine wp_region_quiet_lit (by kernel_rfl) (by kernel_rfl) ?_
      iterate 3 (go_big_quiet_step (fail))
      go_big_quiet_want
      refine quiet_value (fun w' hw' => run_load_at w' 36 _ rfl b1 (o1 + j * 36) (by rfl) (s.v) 36 _ (by obtain ⟨m, rfl⟩ := hw'; exact HA1.out) Tryz.underlying36 rfl infoU) ?_
      simp only [Act.put, List.setIfInBounds_toArray, List.set_cons_succ, List.set_cons_zero]
      go_big_quiet_on
      iterate 3 (go_big_quiet_step (fail))
      go_big_quiet_want
      refine quiet_value (fun w' hw' => run_load_at w' 36 _ rfl b2 (o2 + j * 36) (by rfl) (s.v) 36 _ (by obtain ⟨m, rfl⟩ := hw'; exact HA2.out) Tryz.underlying36 rfl infoU) ?_
      simp only [Act.put, List.setIfInBounds_toArray, List.set_cons_succ, List.set_cons_zero]
      go_big_quiet_on
      iterate 1 (go_big_quiet_step (fail))
      refine wpQuiet_nil ?_
      intro _ hw'
      obtain ⟨nq, rfl⟩ := hw'
      go_wp2
      go_roundw
      case rel => exact ⟨j + 1, by omega, by go_num, belowD hwk nq⟩
      case measure => simp [intOf]; omega
    · have hjn : j = n := by omega
      subst hjn
      have hd : decide ((j : Int) < (j : Int)) = false := decide_eq_false (by omega)
      have hd2 : decide (j < j) = false := decide_eq_false (by omega)
      go_wp2
      go_ret
      exact ⟨by simp, hwk⟩
set_option maxRecDepth 100000 in
set_option maxHeartbeats 40000000 in
theorem rises_yes (a b : Int) (h : b = a ∨ b = wrap64 (a + 1)) (w : World) : Calls Tryz.prog 17 #[.int .i64 a, .int .i64 b] w fun e w' => e = .returned (.bool true) ∧ w = w' := by
  obtain ⟨R, hR⟩ : ∃ R, wrap64 (a + 1) = R := ⟨_, rfl⟩
  cases q1 : (b == a) with
  | true =>
    go_enter Tryz.func17, Tryz.ntmps17
    go_wp2
    go_ret
    exact ⟨rfl, rfl⟩
  | false =>
    have q2 : (b == R) = true := by
      rcases h with h | h
      · rw [h] at q1; simp at q1
      · rw [← hR, h]; simp
    clear h
    go_enter Tryz.func17, Tryz.ntmps17
    go_wp2
    go_ret
    exact ⟨rfl, rfl⟩
def soundB (s : St) : Bool := ((s.rem == s.ack) || (s.rem == wrap64 (s.ack + 1))) && (decide (0 ≤ s.ap) && (decide (s.ap ≤ (s.peers.n : Int)) && (decide (0 ≤ s.so) && (decide (s.so ≤ (s.ours.n : Int)) && (decide (0 ≤ s.ho) && decide (s.ho ≤ (s.ours.n : Int)))))))
set_option maxRecDepth 100000 in
set_option maxHeartbeats 40000000 in
theorem sound_any (s : St) (w : World) : Calls Tryz.prog 16 #[.agg (tabv s.v 115)] w fun e w' => e = .returned (.bool (soundB s)) ∧ Below w.heap.size w w' := by
  obtain ⟨w1, hW1⟩ : ∃ wX, w.alloc (.cells (tabv s.v 115) 31) = wX := ⟨_, rfl⟩
  have r1 : Has w1 w.heap.size 31 s.v 115 := by rw [← hW1]; exact Has.new w 31 s.v 115 _ rfl
  have b1 : Below w.heap.size w w1 := by rw [← hW1]; exact (Below.refl w.heap.size w).alloc (Nat.le_refl _) _
  obtain ⟨R, hR⟩ : ∃ R, wrap64 (s.ack + 1) = R := ⟨_, rfl⟩
  have c4 : w1.cell? ⟨w.heap.size, 4, none⟩ = some (.slice s.ours.ad s.ours.n s.ours.c) := r1.cell 4 (by omega)
  have c5 : w1.cell? ⟨w.heap.size, 5, none⟩ = some (.slice s.peers.ad s.peers.n s.peers.c) := r1.cell 5 (by omega)
  have c7 : w1.cell? ⟨w.heap.size, 7, none⟩ = some (.int .i64 s.rem) := r1.cell 7 (by omega)
  have c8 : w1.cell? ⟨w.heap.size, 8, none⟩ = some (.int .i64 s.ack) := r1.cell 8 (by omega)
  have c10 : w1.cell? ⟨w.heap.size, 10, none⟩ = some (.int .i64 s.ap) := r1.cell 10 (by omega)
  have c11 : w1.cell? ⟨w.heap.size, 11, none⟩ = some (.int .i64 s.so) := r1.cell 11 (by omega)
  have c13 : w1.cell? ⟨w.heap.size, 13, none⟩ = some (.int .i64 s.ho) := r1.cell 13 (by omega)
  clear r1
  unfold soundB
  rw [hR]
  cases q1 : (s.rem == s.ack) with
  | true =>
    cases d0 : decide (0 ≤ s.ap) with
    | false =>
      go_enter Tryz.func16, Tryz.ntmps16
      go_wp2
      go_ret
      exact ⟨rfl, b1⟩
    | true =>
      cases d1 : decide (s.ap ≤ (s.peers.n : Int)) with
      | false =>
        go_enter Tryz.func16, Tryz.ntmps16
        go_wp2
        go_ret
        exact ⟨rfl, b1⟩
      | true =>
        cases d2 : decide (0 ≤ s.so) with
        | false =>
          go_enter Tryz.func16, Tryz.ntmps16
          go_wp2
          go_ret
          exact ⟨rfl, b1⟩
        | true =>
          cases d3 : decide (s.so ≤ (s.ours.n : Int)) with
          | false =>
            go_enter Tryz.func16, Tryz.ntmps16
            go_wp2
            go_ret
            exact ⟨rfl, b1⟩
          | true =>
            cases d4 : decide (0 ≤ s.ho) with
            | false =>
              go_enter Tryz.func16, Tryz.ntmps16
              go_wp2
              go_ret
              exact ⟨rfl, b1⟩
            | true =>
              cases d5 : decide (s.ho ≤ (s.ours.n : Int)) with
              | false =>
                go_enter Tryz.func16, Tryz.ntmps16
                go_wp2
                go_ret
                exact ⟨rfl, b1⟩
              | true =>
                go_enter Tryz.func16, Tryz.ntmps16
                go_wp2
                go_ret
                exact ⟨rfl, b1⟩
  | false =>
    cases q2 : (s.rem == R) with
    | false =>
      go_enter Tryz.func16, Tryz.ntmps16
      go_wp2
      go_ret
      exact ⟨rfl, b1⟩
    | true =>
      cases d0 : decide (0 ≤ s.ap) with
      | false =>
        go_enter Tryz.func16, Tryz.ntmps16
        go_wp2
        go_ret
        exact ⟨rfl, b1⟩
      | true =>
        cases d1 : decide (s.ap ≤ (s.peers.n : Int)) with
        | false =>
          go_enter Tryz.func16, Tryz.ntmps16
          go_wp2
          go_ret
          exact ⟨rfl, b1⟩
        | true =>
          cases d2 : decide (0 ≤ s.so) with
          | false =>
            go_enter Tryz.func16, Tryz.ntmps16
            go_wp2
            go_ret
            exact ⟨rfl, b1⟩
          | true =>
            cases d3 : decide (s.so ≤ (s.ours.n : Int)) with
            | false =>
              go_enter Tryz.func16, Tryz.ntmps16
              go_wp2
              go_ret
              exact ⟨rfl, b1⟩
            | true =>
              cases d4 : decide (0 ≤ s.ho) with
              | false =>
                go_enter Tryz.func16, Tryz.ntmps16
                go_wp2
                go_ret
                exact ⟨rfl, b1⟩
              | true =>
                cases d5 : decide (s.ho ≤ (s.ours.n : Int)) with
                | false =>
                  go_enter Tryz.func16, Tryz.ntmps16
                  go_wp2
                  go_ret
                  exact ⟨rfl, b1⟩
                | true =>
                  go_enter Tryz.func16, Tryz.ntmps16
                  go_wp2
                  go_ret
                  exact ⟨rfl, b1⟩
end Go.Proofs.YtlohfoggcdaeiaaGreat
/-
  RecordKeeps: what a fold keeps, in plain words.
-/
namespace Go.Proofs.YtlohfoggcdaeiaaGreat
open Go.RowKit S
set_option linter.unusedVariables false
set_option linter.unusedSimpArgs false
theorem soundB_iff (s : St) : soundB s = true ↔ (s.rem = s.ack ∨ s.rem = wrap64 (s.ack + 1)) ∧ 0 ≤ s.ap ∧ s.ap ≤ (s.peers.n : Int) ∧ 0 ≤ s.so ∧ s.so ≤ (s.ours.n : Int) ∧ 0 ≤ s.ho ∧ s.ho ≤ (s.ours.n : Int) := by
  unfold soundB
  simp only [Bool.and_eq_true, Bool.or_eq_true, beq_iff_eq, decide_eq_true_eq]
theorem apOk_kind [Inhabited S.Tbl] {s : St} {lo lp : List Upd} {ls : List Slot} {r : Rc} {lr : List Upd} (h : apOk s lo lp ls r lr = true) : validR r lr = true ∧ (r.kind = 1 ∨ r.kind = 2 ∨ r.kind = 3 ∨ r.kind = 4 ∨ r.kind = 5 ∨ r.kind = 6) := by
  unfold apOk at h
  rw [Bool.and_eq_true] at h
  refine ⟨h.1, ?_⟩
  have hk : isRec r.kind = true := by have := h.1; unfold validR at this; simp only [Bool.and_eq_true] at this; exact this.1
  unfold isRec at hk
  simp only [Bool.and_eq_true, decide_eq_true_eq] at hk
  omega
/-- What is the same of a state and of what a record makes of it. -/
structure Kept (s t : St) (lo lo2 lp lp2 : List Upd) : Prop where
  sound : soundB t = true
  loc : t.loc = s.loc ∨ t.loc = wrap64 (s.loc + 1)
  rem : t.rem = s.rem ∨ t.rem = wrap64 (s.rem + 1)
  ack : t.ack = s.ack ∨ t.ack = wrap64 (s.ack + 1)
  ours : lo2.take lo.length = lo
  peers : lp2.take s.ap.toNat = lp.take s.ap.toNat
  ap : s.ap ≤ t.ap
  fail : s.fail = 0 ∨ t.fail = s.fail
theorem kept_of [Inhabited S.Tbl] {s : St} {lo lp : List Upd} {ls : List Slot} {r : Rc} {lr : List Upd} (hs : soundB s = true) (hno : lo.length = s.ours.n) (hnp : lp.length = s.peers.n) (h : apOk s lo lp ls r lr = true) (y1 y2 y3 : Sl) (n1 : (newO lo r).length = y1.n) (n2 : (newP s lp r lr).length = y2.n) : Kept s (setSl (newS s lp r lr) y1 y2 y3) lo (newO lo r) lp (newP s lp r lr) := by
  obtain ⟨hv, hk⟩ := apOk_kind h
  have ho := (validR_own hv).2
  unfold apOk at h
  rw [hv, Bool.true_and] at h
  have hs' := (soundB_iff s).1 hs
  obtain ⟨q0, q1, q2, q3, q4, q5, q6⟩ := hs'
  unfold ownV at ho
  rcases hk with hk | hk | hk | hk | hk | hk <;> rw [hk] at h ho <;> simp only [Int.reduceEq, if_true, if_false, reduceIte] at h ho
  · have e1 : newO lo r = lo ++ [r.upd] := by unfold newO; rw [if_pos hk]
    have e2 : newP s lp r lr = lp := by unfold newP; rw [if_neg (by omega)]
    have e3 : newS s lp r lr = s := by unfold newS; rw [if_pos hk]
    rw [e1] at n1 ⊢; rw [e2] at n2 ⊢; rw [e3]
    rw [List.length_append, List.length_singleton] at n1
    refine ⟨(soundB_iff _).2 ⟨q0, q1, ?_, q3, ?_, q5, ?_⟩, .inl rfl, .inl rfl, .inl rfl, List.take_left, rfl, Int.le_refl _, .inr rfl⟩
    · show s.ap ≤ (y2.n : Int); omega
    · show s.so ≤ (y1.n : Int); omega
    · show s.ho ≤ (y1.n : Int); omega
  · have e1 : newO lo r = lo := by unfold newO; rw [if_neg (by omega)]
    have e2 : newP s lp r lr = lp := by unfold newP; rw [if_neg (by omega)]
    have e3 : newS s lp r lr = ⟨s.side, s.cap, s.bo, s.bp, s.ours, s.peers, s.loc, r.idx, s.ack, s.ao, s.ap, r.co, r.cp, s.ho, s.hp, true, s.p0, s.p1, s.sig, s.shelf, s.fail, s.closed⟩ := by unfold newS; rw [hk]; rfl
    rw [e1] at n1 ⊢; rw [e2] at n2 ⊢; rw [e3]
    unfold sgOk at h
    simp only [Bool.and_eq_true, beq_iff_eq, Bool.not_eq_true', decide_eq_true_eq, decide_eq_false_iff_not] at h
    obtain ⟨h1, h2, h3, h4, h5⟩ := h
    simp only [Bool.and_eq_true] at ho
    have c1 := (cntB_iff _).1 ho.2.1
    refine ⟨(soundB_iff _).2 ⟨.inr ?_, q1, ?_, c1.1, ?_, q5, ?_⟩, .inl rfl, .inr ?_, .inl rfl, by rw [List.take_of_length_le (Nat.le_refl _)], rfl, Int.le_refl _, .inr rfl⟩
    · show r.idx = wrap64 (s.ack + 1); rw [h2, h1]
    · show s.ap ≤ (y2.n : Int); omega
    · show r.co ≤ (y1.n : Int); omega
    · show s.ho ≤ (y1.n : Int); omega
    · show r.idx = wrap64 (s.rem + 1); exact h2
  · have e1 : newO lo r = lo := by unfold newO; rw [if_neg (by omega)]
    have e2 : newP s lp r lr = lp.take s.ap.toNat ++ lr := by unfold newP; rw [if_pos hk]
    have e3 : newS s lp r lr = ⟨s.side, s.cap, s.bo, s.bp, s.ours, s.peers, r.idx, s.rem, s.ack, s.ho, ((lp.take s.ap.toNat ++ lr).length : Int), s.so, s.sp, s.ho, s.hp, false, s.p0, s.p1, r.sig, s.shelf, s.fail, s.closed⟩ := by unfold newS; rw [hk]; rfl
    rw [e1] at n1 ⊢; rw [e2] at n2 ⊢; rw [e3]
    unfold cmOk at h
    simp only [Bool.and_eq_true, beq_iff_eq] at h
    have hl : (lp.take s.ap.toNat).length = s.ap.toNat := by rw [List.length_take]; omega
    have hl2 : (lp.take s.ap.toNat ++ lr).length = s.ap.toNat + lr.length := by rw [List.length_append, hl]
    refine ⟨(soundB_iff _).2 ⟨q0, ?_, ?_, q3, ?_, q5, ?_⟩, .inr h.1, .inl rfl, .inl rfl, by rw [List.take_of_length_le (Nat.le_refl _)], ?_, ?_, .inr rfl⟩
    · show (0 : Int) ≤ ((lp.take s.ap.toNat ++ lr).length : Int); omega
    · show ((lp.take s.ap.toNat ++ lr).length : Int) ≤ (y2.n : Int); omega
    · show s.so ≤ (y1.n : Int); omega
    · show s.ho ≤ (y1.n : Int); omega
    · rw [List.take_append_of_le_length (by omega), List.take_take, Nat.min_self]
    · show s.ap ≤ ((lp.take s.ap.toNat ++ lr).length : Int); omega
  · have e1 : newO lo r = lo := by unfold newO; rw [if_neg (by omega)]
    have e2 : newP s lp r lr = lp := by unfold newP; rw [if_neg (by omega)]
    have e3 : newS s lp r lr = ⟨s.side, s.cap, s.bo, s.bp, s.ours, s.peers, s.loc, s.rem, wrap64 (s.ack + 1), s.ao, s.ap, s.so, s.sp, s.so, s.sp, s.beh, s.p1, r.pt, s.sig, s.shelf, s.fail, s.closed⟩ := by unfold newS; rw [hk]; rfl
    rw [e1] at n1 ⊢; rw [e2] at n2 ⊢; rw [e3]
    unfold rvOk at h
    simp only [Bool.and_eq_true, beq_iff_eq] at h
    refine ⟨(soundB_iff _).2 ⟨.inl h.1, q1, ?_, q3, ?_, q3, ?_⟩, .inl rfl, .inl rfl, .inr rfl, by rw [List.take_of_length_le (Nat.le_refl _)], rfl, Int.le_refl _, .inr rfl⟩
    · show s.ap ≤ (y2.n : Int); omega
    · show s.so ≤ (y1.n : Int); omega
    · show s.so ≤ (y1.n : Int); omega
  · have e1 : newO lo r = lo := by unfold newO; rw [if_neg (by omega)]
    have e2 : newP s lp r lr = lp := by unfold newP; rw [if_neg (by omega)]
    have e3 : newS s lp r lr = ⟨s.side, s.cap, s.bo, s.bp, s.ours, s.peers, s.loc, s.rem, s.ack, s.ao, s.ap, s.so, s.sp, s.ho, s.hp, s.beh, s.p0, s.p1, s.sig, s.shelf, (if s.fail = 0 then r.code else s.fail), s.closed⟩ := by unfold newS; rw [hk]; rfl
    rw [e1] at n1 ⊢; rw [e2] at n2 ⊢; rw [e3]
    refine ⟨(soundB_iff _).2 ⟨q0, q1, ?_, q3, ?_, q5, ?_⟩, .inl rfl, .inl rfl, .inl rfl, by rw [List.take_of_length_le (Nat.le_refl _)], rfl, Int.le_refl _, ?_⟩
    · show s.ap ≤ (y2.n : Int); omega
    · show s.so ≤ (y1.n : Int); omega
    · show s.ho ≤ (y1.n : Int); omega
    · by_cases hf : s.fail = 0
      · exact .inl hf
      · right; show (if s.fail = 0 then r.code else s.fail) = s.fail; rw [if_neg hf]
  · have e1 : newO lo r = lo := by unfold newO; rw [if_neg (by omega)]
    have e2 : newP s lp r lr = lp := by unfold newP; rw [if_neg (by omega)]
    have e3 : newS s lp r lr = ⟨s.side, s.cap, s.bo, s.bp, s.ours, s.peers, s.loc, s.rem, s.ack, s.ao, s.ap, s.so, s.sp, s.ho, s.hp, s.beh, s.p0, s.p1, s.sig, s.shelf, s.fail, r.idx⟩ := by unfold newS; rw [hk]; rfl
    rw [e1] at n1 ⊢; rw [e2] at n2 ⊢; rw [e3]
    refine ⟨(soundB_iff _).2 ⟨q0, q1, ?_, q3, ?_, q5, ?_⟩, .inl rfl, .inl rfl, .inl rfl, by rw [List.take_of_length_le (Nat.le_refl _)], rfl, Int.le_refl _, .inr rfl⟩
    · show s.ap ≤ (y2.n : Int); omega
    · show s.so ≤ (y1.n : Int); omega
    · show s.ho ≤ (y1.n : Int); omega
theorem nexts_len [Inhabited S.Tbl] (mine others : List Upd) : ∀ (l : List Upd), nexts mine others l = true → l = [] ∨ (mine ++ l).length ≤ 2048
  | [], _ => .inl rfl
  | u :: l, h => by
    right
    simp only [nexts, Bool.and_eq_true, beq_iff_eq] at h
    have h1 : mine.length < 2048 := by
      have := h.1
      unfold nextA at this
      by_cases h2 : 2048 ≤ mine.length
      · rw [if_pos h2] at this; cases this
      · omega
    rcases nexts_len (mine ++ [u]) others l h.2 with e | e
    · rw [e, List.length_append, List.length_singleton]; omega
    · simp only [List.length_append, List.length_cons, List.length_nil] at e ⊢; omega
/-- The lists stay within what memory holds. -/
theorem len_of [Inhabited S.Tbl] {s : St} {lo lp : List Upd} {ls : List Slot} {r : Rc} {lr : List Upd} (h : apOk s lo lp ls r lr = true) (zo : lo.length ≤ 1954687338212) (zp : lp.length ≤ 1954687338212) (zs : ls.length ≤ 2932031007403) : (newO lo r).length ≤ 1954687338212 ∧ (newP s lp r lr).length ≤ 1954687338212 ∧ (newF ls r).length ≤ 2932031007403 := by
  obtain ⟨hv, hk⟩ := apOk_kind h
  unfold apOk at h
  rw [hv, Bool.true_and] at h
  refine ⟨?_, ?_, ?_⟩
  · unfold newO
    by_cases h1 : r.kind = 1
    · rw [if_pos h1] at h ⊢
      rw [beq_iff_eq] at h
      unfold nextA at h
      by_cases h2 : 2048 ≤ lo.length
      · rw [if_pos h2] at h; cases h
      · rw [List.length_append, List.length_singleton]; omega
    · rw [if_neg h1]; exact zo
  · unfold newP
    by_cases h3 : r.kind = 3
    · rw [if_pos h3]
      rw [if_neg (by omega), if_neg (by omega), if_pos h3] at h
      unfold cmOk at h
      simp only [Bool.and_eq_true] at h
      rcases nexts_len _ _ _ h.2.2.2 with e | e
      · rw [e, List.append_nil, List.length_take]; omega
      · omega
    · rw [if_neg h3]; exact zp
  · unfold newF
    by_cases h4 : r.kind = 4
    · rw [if_pos h4]
      unfold putA
      split
      · simp
      · split
        · simp
        · split
          · rw [withA_length]; omega
          · simp
    · rw [if_neg h4]; exact zs
end Go.Proofs.YtlohfoggcdaeiaaGreat
