/-
  The law's own: lend, kept, more; copy of updates; operations of a drawn region.
-/
import Derived.Test.YtoomcpehdflolaaGDoc2
import Derived.Deep.RegionHeld3
import Derived.Deep.DrawnRows
import Derived.Laws.CopyRow
namespace Go.Proofs.Ytoomcpehdflolaa
open Go.RowKit S
set_option linter.unusedVariables false
set_option linter.unusedSimpArgs false
theorem takeH {P : Program} {ops : Array Oper} {Q : Exit → Act → World → Prop} {md : Region.Mode} {S : World → Prop} (i : Nat) (d : Option Tmp) (v : Value) {oi : Oper} {fuel : Nat} {listed : Array Bool} {a : Act} {w : World} (hi : ops[i]? = some oi) (hd : oi.dst = d)
    (hs : Region.noSelect ops = true) (hf : Region.free md ops listed i = true) (hr : (Region.ready md ops listed).contains i = true)
    (hQ : ∀ c a w, Q (.panic c) (a.put oi.dst v) w → Q (.panic c) a w) (hw : Region.wanted oi (yielded ops a.tmps) = true) (hy : ∀ w, S w → (execOp a.eval oi).run P w = .ok (.value v) w) (hS : S w)
    (h : wpAnyH P md ops Q S fuel (listed.setIfInBounds i true) (a.put d v) w) : wpAnyH P md ops Q S (fuel + 1) listed a w :=
  wpAnyH_take hi hs hf hr hQ (.inl ⟨hw, hy⟩) hS (by rw [hd]; exact h)
theorem skH {P : Program} {ops : Array Oper} {Q : Exit → Act → World → Prop} {md : Region.Mode} {S : World → Prop} (i : Nat) (d : Option Tmp) {oi : Oper} {fuel : Nat} {listed : Array Bool} {a : Act} {w : World} (hi : ops[i]? = some oi)
    (hS : S w) (h : wpAnyH P md ops Q S fuel (listed.setIfInBounds i true) (a.put d undef) w) (hd : oi.dst = d := by rfl)
    (hs : Region.noSelect ops = true := by kernel_rfl) (hf : Region.free md ops listed i = true := by kernel_rfl) (hr : (Region.ready md ops listed).contains i = true := by kernel_rfl)
    (hQ : ∀ c a w, Q (.panic c) (a.put oi.dst undef) w → Q (.panic c) a w := by exact fun _ _ _ h => h) (hw : Region.wanted oi (yielded ops a.tmps) = false := by rfl) : wpAnyH P md ops Q S (fuel + 1) listed a w :=
  wpAnyH_take hi hs hf hr hQ (.inr ⟨hw, rfl⟩) hS (by rw [hd]; exact h)
def mark7 : Upd := ⟨-7, 0, 0, fun _ => 0, nilB⟩
set_option maxRecDepth 100000 in
theorem built_m7 : Try.prog.built 39 [(0, .int .i64 (-7))] = some (tabv mark7.v 36) := by kernel_rfl
/-- What lend answers: the updates, with a mark behind them in the spare room. -/
def Lend (B : Nat) (w : World) (v : Value) (l : List Upd) : Prop := ∃ g cap, v = .slice (some ⟨g, 0, none⟩) l.length cap ∧ OwnU B w (.slice (some ⟨g, 0, none⟩) (l.length + 1) cap) (l ++ [mark7])
set_option maxRecDepth 100000 in
set_option maxHeartbeats 1000000 in
theorem lend_any (ad : Option Addr) (n cap : Nat) (l : List Upd) (hn : l.length = n) (hz : n ≤ 1954687338211) (w : World) (hS : Upds w ad l) : Calls Try.prog 19 #[.slice ad n cap] w fun e w' => (∃ v, e = .returned v ∧ Lend w.heap.size w' v l) ∧ Below w.heap.size w w' := by
  subst hn
  obtain ⟨v1, w1, r1, o1, b1⟩ := run_app_all w ad cap l hS (by omega)
  obtain ⟨v3, w2, w3, r2, r3, o3, gr3, hb3⟩ := appU_step w1 w.heap.size v1 l mark7 o1 (by omega) b1.size
  have hlen : (l ++ [mark7]).length = l.length + 1 := by simp
  obtain ⟨g, cap2, hv3, hcap⟩ : ∃ g cap2, v3 = .slice (some ⟨g, 0, none⟩) (l.length + 1) cap2 ∧ l.length + 1 ≤ cap2 := by
    have h := o3.2
    rw [hlen] at h
    rcases h with ⟨_, h⟩ | ⟨g, c, cur, h, _, _, hc, _⟩
    · omega
    · exact ⟨g, c, h, hc⟩
  subst hv3
  have hb : Below w.heap.size w w3 := b1.trans hb3
  have R1 := hide r1
  have R2 := hide r2
  have R3 := hide r3
  have HO : Hid (Lend w.heap.size w3 (.slice (some ⟨g, 0, none⟩) l.length cap2) l) := ⟨g, cap2, rfl, o3⟩
  clear r1 r2 r3 o1 o3 b1 gr3 hb3
  obtain ⟨m, hm⟩ : ∃ m, l.length = m := ⟨_, rfl⟩
  rw [hm] at R1 hcap hz HO R3 ⊢
  clear hm
  have sl := fun w => sliceK w (some ⟨g, 0, none⟩) (m + 1) cap2 m (by omega)
  go_enter Try.func19, Try.ntmps19
  go_wp2_with (first | refine wpList_app rfl _ _ _ rfl R1.out ?_ | refine wpW_build (by rfl) 39 #[(0, .const (.int .i64 (-7)))] rfl [(0, .int .i64 (-7))] (by simp [Act.eval]) _ built_m7 ?_ | refine wpList_slice1 rfl 22 _ rfl (.agg (tabv mark7.v 36)) rfl R2.out ?_ | refine wpList_app rfl _ _ _ rfl R3.out ?_)
  go_ret
  exact ⟨⟨_, rfl, HO.out⟩, hb⟩
theorem Lend.below {B B' : Nat} {w w' : World} {v : Value} {l : List Upd} (h : Lend B w v l) (hb : Below B' w w') (hB : w.heap.size ≤ B') : Lend B w' v l := by
  obtain ⟨g, cap, h1, h2⟩ := h
  exact ⟨g, cap, h1, h2.below hb hB⟩
theorem Lend.form {B : Nat} {w : World} {v : Value} {l : List Upd} (h : Lend B w v l) : ∃ g cap, v = .slice (some ⟨g, 0, none⟩) l.length cap ∧ OwnU B w (.slice (some ⟨g, 0, none⟩) (l.length + 1) cap) (l ++ [mark7]) ∧ Upds w (some ⟨g, 0, none⟩) (l ++ [mark7]) ∧ Upds w (some ⟨g, 0, none⟩) l ∧ l.length + 1 ≤ cap ∧ g < w.heap.size ∧ B ≤ g := by
  obtain ⟨g, cap, rfl, h2⟩ := h
  have hlen : (l ++ [mark7]).length = l.length + 1 := by simp
  obtain ⟨ad, c, e, hs, hlt, hc, hm⟩ := h2.upds
  rw [hlen] at e
  cases e
  have hb := hlt _ rfl
  refine ⟨g, cap, rfl, h2, hs, .inr ⟨g, 0, rfl, hb.1, fun i s hi => ?_⟩, by rw [hlen] at hc; exact hc, hb.1, hb.2⟩
  have hil : i < l.length := (List.getElem?_eq_some_iff.1 hi).1
  obtain ⟨b', o', e', _, hA⟩ := hs.get i s (by rw [List.getElem?_append_left hil]; exact hi)
  cases e'
  exact hA
set_option maxRecDepth 100000 in
set_option maxHeartbeats 1000000 in
theorem kept_any (ad : Option Addr) (g n c1 c2 : Nat) (l : List Upd) (hn : l.length = n) (hz : n ≤ 140737488351232) (hc : n + 1 ≤ c1) (w : World) (h1 : Upds w (some ⟨g, 0, none⟩) (l ++ [mark7])) (h2 : Upds w ad l) : Calls Try.prog 24 #[.slice (some ⟨g, 0, none⟩) n c1, .slice ad n c2] w fun e w' => e = .returned (.bool true) ∧ Below w.heap.size w w' := by
  have hni : (n : Int) ≤ 140737488351232 := by omega
  have hd0 : ((n : Int) == (n : Int)) = true := by simp
  have hgs := guardU
  have HN := hide hn
  clear hn
  go_enter Try.func24, Try.ntmps24
  go_wp2
  go_loopw [5] (fun i wr => ∃ j : Nat, j ≤ n ∧ i = .int .i64 (j : Int) ∧ Below w.heap.size w wr) (fun i _ => n - (intOf i).toNat)
  case atStart => exact ⟨0, Nat.zero_le _, rfl, Below.refl _ _⟩
  case round =>
    obtain ⟨j, hj, rfl, hwk⟩ := hrel
    have h1' := h1.below hwk
    have h2' := h2.below hwk
    by_cases hlt : j < n
    · have hd : decide ((j : Int) < (n : Int)) = true := decide_eq_true (by omega)
      have hd2 : decide (j < n) = true := decide_eq_true hlt
      have hk0 : (0 : Int) ≤ (j : Int) := by omega
      have hk1 : (j : Int) < (n : Int) := by omega
      obtain ⟨s, hs⟩ : ∃ s, l[j]? = some s := ⟨_, List.getElem?_eq_getElem (by rw [HN.out]; exact hlt)⟩
      obtain ⟨b1, o1, e1, hb1, hA1⟩ := h1'.get j s (by rw [List.getElem?_append_left (by rw [HN.out]; exact hlt)]; exact hs)
      cases e1
      rw [Nat.zero_add] at hA1
      obtain ⟨b2, o2, rfl, hb2, hA2⟩ := h2'.get j s hs
      have hqs : ∀ w : World, (Op.equalIn 10000 39 (.agg (tabv s.v 36)) (.agg (tabv s.v 36))).run Try.prog w = .ok true w := fun w => by rw [eqUD, eqU_refl]
      have HA1 := hide hA1
      have HA2 := hide hA2
      clear hA1 hA2 hb1 hb2 hs h1' h2'
      go_wp2
      refine wp_region_quiet_lit (by kernel_rfl) (by kernel_rfl) ?_
      iterate 3 (go_big_quiet_step (fail))
      go_big_quiet_want
      refine quiet_value (fun w' hw' => run_load_at w' 39 _ rfl g (j * 36) (by rfl) (s.v) 36 _ (by obtain ⟨m, rfl⟩ := hw'; exact HA1.out) Try.underlying39 rfl infoU) ?_
      simp only [Act.put, List.setIfInBounds_toArray, List.set_cons_succ, List.set_cons_zero]
      go_big_quiet_on
      iterate 3 (go_big_quiet_step (fail))
      go_big_quiet_want
      refine quiet_value (fun w' hw' => run_load_at w' 39 _ rfl b2 (o2 + j * 36) (by rfl) (s.v) 36 _ (by obtain ⟨m, rfl⟩ := hw'; exact HA2.out) Try.underlying39 rfl infoU) ?_
      simp only [Act.put, List.setIfInBounds_toArray, List.set_cons_succ, List.set_cons_zero]
      go_big_quiet_on
      iterate 1 (go_big_quiet_step (fail))
      refine wpQuiet_nil ?_
      intro _ hw'
      obtain ⟨nq, rfl⟩ := hw'
      go_wp2
      go_roundw
      case rel => exact ⟨j + 1, by omega, by go_num, belowD hwk nq⟩
      case measure => simp [intOf]; omega
    · have hjn : n = j := by omega
      subst hjn
      have hd : decide ((n : Int) < (n : Int)) = false := decide_eq_false (by omega)
      have hd2 : decide (n < n) = false := decide_eq_false (by omega)
      obtain ⟨b1, o1, e1, hb1, hA1⟩ := h1'.get n mark7 (by rw [← HN.out]; simp)
      cases e1
      rw [Nat.zero_add] at hA1
      have HA1 := hide hA1
      have sl : ∀ w, (Instr.sliceAt 22 (.slice (some ⟨g, 0, none⟩) n c1) none (some (.int .i64 ((n : Int) + 1))) none).run Try.prog w = .ok (.slice (some ⟨g, 0, none⟩) (n + 1) c1) w := fun w => by
        have := sliceK w (some ⟨g, 0, none⟩) n c1 (n + 1) hc
        rw [show (((n + 1 : Nat) : Int)) = (n : Int) + 1 by omega] at this
        exact this
      have hw : IntKind.i64.wrap ((n : Int) + 1) = (n : Int) + 1 := by rw [IntKind.wrap_i64]; omega
      have hx0 : (0 : Int) ≤ (n : Int) := by omega
      have hx1 : (n : Int) < (n : Int) + 1 := by omega
      have hx2 : (n : Int) < ((n + 1 : Nat) : Int) := by omega
      have hqs : ∀ w : World, (Op.equalIn 10000 39 (.agg (tabv mark7.v 36)) (.agg (tabv mark7.v 36))).run Try.prog w = .ok true w := fun w => by rw [eqUD, eqU_refl]
      clear hA1 hb1 h1' h2'
      go_wp2_with (first | refine wpW_load_at 39 _ rfl g (n * 36) (by rfl) (by rfl) _ 36 _ HA1.out Try.underlying39 rfl infoU ?_ | refine wpW_build (by rfl) 39 #[(0, .const (.int .i64 (-7)))] rfl [(0, .int .i64 (-7))] (by simp [Act.eval]) _ built_m7 ?_)
      go_ret
      exact ⟨by simp, hwk⟩
def flipI (a : Int) : Int := bits .xor .i64 a 1
def flipU (u : Upd) : Upd := ⟨u.kind, u.id, flipI u.amt, u.hash, u.note⟩
theorem Has.flip {w : World} {g : Nat} {s : Upd} (h : Has w g 39 s.v 36) : Has (w.setCell ⟨g, 2, none⟩ (.int .i64 (flipI s.amt))) g 39 (flipU s).v 36 :=
  (h.set 2 (.int .i64 (flipI s.amt))).congr _ (fun i hi => by unfold upd; by_cases e : i = 2
                                                              · subst e; rw [if_pos rfl]; rfl
                                                              · rw [if_neg e]; unfold Upd.v flipU; simp only; split <;> first | rfl | (split <;> first | rfl | (split <;> first | omega | rfl)))
theorem flip_next {l : List Upd} {j : Nat} {x : Upd} (h : l[j]? = some x) : (l.take (j + 1)).map flipU = (l.take j).map flipU ++ [flipU x] := by rw [take_snoc h, List.map_append]; rfl
set_option maxRecDepth 100000 in
set_option maxHeartbeats 1000000 in
theorem more_any (ad : Option Addr) (n cap : Nat) (l : List Upd) (hn : l.length = n) (hz : n ≤ 1954687338211) (w : World) (hS : Upds w ad l) : Calls Try.prog 25 #[.slice ad n cap] w fun e w' => (∃ v, e = .returned v ∧ OwnU w.heap.size w' v (l.map flipU)) ∧ Below w.heap.size w w' := by
  have hni : (n : Int) ≤ 140737488351232 := by omega
  have HN := hide hn
  have HZ := hide hz
  clear hn hz
  go_enter Try.func25, Try.ntmps25
  go_wp2
  go_loopw [4, 3] (fun i v wr => ∃ j : Nat, j ≤ n ∧ i = .int .i64 (j : Int) ∧ OwnU w.heap.size wr v ((l.take j).map flipU) ∧ Below w.heap.size w wr) (fun i _ _ => n - (intOf i).toNat)
  case atStart => exact ⟨0, Nat.zero_le _, rfl, OwnU.nil _ _, Below.refl _ _⟩
  case round =>
    obtain ⟨j, hj, rfl, hO, gb⟩ := hrel
    by_cases hlt : j < n
    · have hd : decide ((j : Int) < (n : Int)) = true := decide_eq_true (by omega)
      have hd2 : decide (j < n) = true := decide_eq_true hlt
      have hk0 : (0 : Int) ≤ (j : Int) := by omega
      have hk1 : (j : Int) < (n : Int) := by omega
      obtain ⟨s, hs⟩ : ∃ s, l[j]? = some s := ⟨_, List.getElem?_eq_getElem (by rw [HN.out]; exact hlt)⟩
      obtain ⟨b, o, rfl, hb1, hA⟩ := (hS.below gb).get j s hs
      have HS := hide hs
      have HA := hide hA
      obtain ⟨w6, w7, hW6, q1, hW7, r1, rb⟩ := newU wr s
      have Q1 := hide q1
      have R7 := hide r1
      have c0 : w7.cell? ⟨wr.heap.size, 0, none⟩ = some (.int .i64 s.kind) := r1.cell 0 (by omega)
      have c1 : w7.cell? ⟨wr.heap.size, 1, none⟩ = some (.int .i64 s.id) := r1.cell 1 (by omega)
      have c2 : w7.cell? ⟨wr.heap.size, 2, none⟩ = some (.int .i64 s.amt) := r1.cell 2 (by omega)
      clear hs hA hb1 q1 r1
      have gb7 := gb.trans (rb.mono gb.size)
      have hO7 := hO.below rb (Nat.le_refl _)
      have hge := gb.size
      have NX := hide (flip_next HS.out)
      generalize hgU : wr.heap.size = gU at Q1 R7 c0 c1 c2 hW7 hge
      have zf := R7.out.frozen 2
      obtain ⟨w8, hW8⟩ : ∃ x, w7.setCell ⟨gU, 2, none⟩ (.int .i64 (flipI s.amt)) = x := ⟨_, rfl⟩
      have R8 : Hid (Has w8 gU 39 (flipU s).v 36) := by rw [← hW8]; exact R7.out.flip
      have hk8 : Keep (· = gU) w7 w8 := by rw [← hW8]; exact keep_set _ _ _ _ rfl
      have hge7 := gb7.size
      have hO8 : OwnU w.heap.size w8 _ ((l.take j).map flipU) := hO7.same fun k hk => hk8.block k (hO7.lt k hk).2 (fun e => by have := (hO.lt k hk).2; omega)
      have gb8 := gb7.trans (hk8.below hge7 (fun k hk e => by omega))
      have hlen : ((l.take j).map flipU).length = j := by rw [List.length_map, List.length_take, HN.out]; omega
      obtain ⟨v', w9, wA, r9, rA, oA, _, bA⟩ := appU_step w8 w.heap.size _ ((l.take j).map flipU) (flipU s) hO8 (by rw [hlen]; have := HZ.out; omega) gb8.size
      have RA9 := hide r9
      have RAA := hide rA
      clear r9 rA rb gb hO hO7 c0 c1 hO8
      unfold flipI at hW8
      go_wp2_with (first | refine wpW_load_at 39 _ rfl (b) (o + j * 36) (by rfl) (by rfl) _ 36 _ (HA.out) Try.underlying39 rfl infoU ?_ | refine wpList_storeU rfl _ _ rfl rfl (gU) (s) rfl rfl _ Q1.out ?_ | refine wpW_load_at 39 _ rfl (gU) (0) (by rfl) (by rfl) _ 36 _ (R8.out.at_ 0 (by omega) (fun i hi => by rw [Nat.zero_add])) Try.underlying39 rfl infoU ?_ | refine wpList_slice1 rfl 22 _ rfl (.agg (tabv (flipU s).v 36)) rfl RA9.out ?_ | refine wpList_app rfl _ _ _ rfl RAA.out ?_)
      go_roundw
      case rel => exact ⟨j + 1, by omega, by go_num, by rw [NX.out]; exact oA, gb8.trans bA⟩
      case measure => simp [intOf]; omega
    · have hjn : n = j := by omega
      subst hjn
      have hd : decide ((n : Int) < (n : Int)) = false := decide_eq_false (by omega)
      have hd2 : decide (n < n) = false := decide_eq_false (by omega)
      rw [show l.take n = l by rw [← HN.out, List.take_length]] at hO
      go_wp2
      go_ret
      exact ⟨⟨_, rfl, hO⟩, gb⟩
/-- copy(x, v): an own row written over by another of the same length; what stands behind stays. -/
theorem run_copyU (w : World) (ty : TypeId) (g cap B B2 : Nat) (v : Value) (l l2 tl : List Upd) (ho : OwnU B w (.slice (some ⟨g, 0, none⟩) (l.length + tl.length) cap) (l ++ tl)) (h2 : OwnU B2 w v l2) (hl : l2.length = l.length) :
    ∃ w', (Builtin.copy_ #[22, 22] ty #[.slice (some ⟨g, 0, none⟩) l.length cap, v]).run Try.prog w = .ok (goInt l.length) w' ∧ OwnU B w' (.slice (some ⟨g, 0, none⟩) (l.length + tl.length) cap) (l2 ++ tl) ∧ Keep (· = g) w w' := by
  obtain ⟨i, i1, i2, i3, i4⟩ := infoUP
  obtain ⟨ad, c2, rfl, hU, hlt, hc, hm⟩ := h2.upds
  have hlen : (l ++ tl).length = l.length + tl.length := List.length_append
  have hlen2 : (l2 ++ tl).length = l.length + tl.length := by rw [List.length_append, hl]
  unfold OwnU at ho ⊢
  rw [hlen] at ho
  rw [hlen2]
  obtain ⟨hB, ⟨e, _⟩ | ⟨g', cp, cur, e, hge, hg, hcp, hmx, hsz, htk⟩⟩ := ho
  · cases e
  · cases e
    cases ad with
    | none =>
      have hl0 : l2 = [] := by
        rcases hU with rfl | ⟨b, o, h, _⟩
        · rfl
        · cases h
      subst hl0
      have hl1 : l = [] := List.length_eq_zero_iff.1 hl.symm
      subst hl1
      refine ⟨w, ?_, ⟨hB, .inr ⟨g, cap, cur, rfl, hge, hg, hcp, hmx, hsz, htk⟩⟩, Keep.refl _ _⟩
      simp [Builtin.copy_, run_underlying Try.underlying22, Builtin.lenOf, Builtin.firstCells, sizeOf, typeInfo, i1, i3, storeCells]
    | some a =>
      have hsrc : ∀ j v, (cellsU l2)[j]? = some v → w.cell? (a.add j) = some v := fun j u hj => by
        have hjl : j < l2.length * 36 := by have := (List.getElem?_eq_some_iff.1 hj).1; rw [cellsU_length] at this; exact this
        rcases hU with rfl | ⟨b, o, ha, _, h⟩
        · simp at hjl
        · cases ha
          have hk : j / 36 < l2.length := by omega
          have hs : l2[j / 36]? = some l2[j / 36] := List.getElem?_eq_getElem hk
          have hc := h (j / 36) _ hs (j % 36) (by omega)
          have hg := cellsU_get l2 (j / 36) _ hs (j % 36) (by omega)
          rw [show j / 36 * 36 + j % 36 = j by omega, hj] at hg
          have hadd : (⟨b, o, none⟩ : Addr).add j = ⟨b, o + j, none⟩ := by unfold Addr.add; split <;> simp_all
          rw [hadd, hg, ← hc, show o + j / 36 * 36 + j % 36 = o + j by omega]
      have hL := run_loadCells_list (P := Try.prog) w a (cellsU l2) hsrc
      have hn : (cellsU l2).length = l.length * 36 := by rw [cellsU_length, hl]
      have hst := run_storeCells_at Try.prog g 0 39 (cellsU l2) 0 cur w hg (by rw [hn, hsz]; omega) (oneCell_U _)
      rw [hn] at hL
      refine ⟨w.setRow g (cur.toList.take (0 + 0) ++ cellsU l2 ++ cur.toList.drop (0 + 0 + (cellsU l2).length)).toArray, ?_, ⟨?_, .inr ⟨g, cap, (cur.toList.take (0 + 0) ++ cellsU l2 ++ cur.toList.drop (0 + 0 + (cellsU l2).length)).toArray, rfl, hge, setRow_heap w g cur _ _ _ hg, ?_, hmx, ?_, ?_⟩⟩, ?_⟩
      · simp [Builtin.copy_, run_underlying Try.underlying22, Builtin.lenOf, Builtin.firstCells, sizeOf, typeInfo, i1, i3, hl, hL, hst]
      · rw [cellsU_length, hlen2]
      · exact hcp
      · simp only [List.size_toArray, List.length_append, List.length_take, List.length_drop, Array.length_toList, hn, hsz]; omega
      · have e1 : cur.toList.take 0 = [] := rfl
        have e2 : cur.toList.drop (0 + 0 + l.length * 36) = cur.toList.drop (l.length * 36) := by simp
        have e3 : (cur.toList.drop (l.length * 36)).take (tl.length * 36) = cellsU tl := by
          have h := congrArg (List.drop (l.length * 36)) htk
          rw [List.drop_take, cellsU_append, List.drop_left' (by rw [cellsU_length])] at h
          rw [← h]; congr 1; rw [Nat.add_mul]; omega
        simp only [Nat.add_zero, e1, List.nil_append, hn, Nat.zero_add]
        rw [cellsU_append, List.take_append, List.take_of_length_le (by rw [hn, Nat.add_mul]; omega), hn, show (l.length + tl.length) * 36 - l.length * 36 = tl.length * 36 by rw [Nat.add_mul]; omega, e3]
      · exact ⟨rfl, rfl, rfl, by simp, fun k hk hne => setRow_other w g k _ hne⟩
end Go.Proofs.Ytoomcpehdflolaa
