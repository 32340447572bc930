import Derived.StillTail
import Derived.Deep.Quiet
import Derived.Deep.RegionHeld3
import Derived.Test.YtlkimfmilccanaaGreatWrite
/-
  A REGION THAT DRAWS ITS ORDER, WHOSE FIRST n OPERATIONS LEAVE A CLASS OF WORLDS (one value in all of them) AND WHOSE LAST ONES ARE FORCED (each waits for the one before, the first of them for all): ONE WALK IN THE ORDER OF THE TEXT. The library's two theorems (quiet; still with a tail), joined.
-/
namespace Go.Proofs.YtlkimfmilccanaaGreat
section
variable {P : Program} {ops : Array Oper} {md : Region.Mode} {C : World → Prop}
def wpAnyQL (P : Program) (md : Region.Mode) (ops : Array Oper) (C : World → Prop) (n : Nat) (L : Array Bool → Act → Prop) : Nat → Array Bool → Act → Prop
  | 0, listed, a => L listed a
  | f + 1, listed, a =>
    Region.ready md ops listed ≠ [] ∧ ∀ i ∈ Region.ready md ops listed, i < n ∧ qOp P ops C i (wpAnyQL P md ops C n L f (listed.setIfInBounds i true)) a
theorem wpAny_of_headQ {n g : Nat} {L : Array Bool → Act → Prop} {Q' : Exit → Act → World → Prop} (hL : ∀ listed a w, C w → L listed a → wpAny P md ops Q' g listed a w) :
    ∀ (f : Nat) (listed : Array Bool) (a : Act) (w : World), C w → wpAnyQL P md ops C n L f listed a → wpAny P md ops Q' (f + g) listed a w
  | 0, listed, a, w, hw, h => by rw [Nat.zero_add]; exact hL _ _ _ hw h
  | f + 1, listed, a, w, hw, h => by
    rw [show f + 1 + g = (f + g) + 1 by omega]
    exact ⟨fun h0 => absurd h0 h.1, fun i hi => wpOp_of_qOp hw (fun a' w' hw' h' => wpAny_of_headQ hL f _ a' w' hw' h') (h.2 i hi).2⟩
theorem wpAnyQL_first {n i : Nat} {oi : Oper} {v : Value} {L : Array Bool → Act → Prop} (hi : ops[i]? = some oi) (hsel : ∀ (j : Nat) (o : Oper) cs b, ops[j]? = some o → o.op ≠ .select cs b)
    (hs : Region.sinkB md ops n = true) (hc : Region.chainB md ops n = true) (hn : n < ops.size) (hin : i < n)
    (hdone : ∀ listed a, L listed a → ∀ j ∈ Region.ready md ops listed, n ≤ j) :
    ∀ (f : Nat) (listed : Array Bool) (a : Act), HeadInv md ops n listed →
      (∀ j oj, ops[j]? = some oj → j ≠ i → listed.getD j true = false → (∀ e ∈ oj.after, Region.binds md e = true → e.on ≠ i) → oi.apart ops oj = true) →
      i ∈ Region.ready md ops listed → YieldsIn P ops C oi v a →
      wpAnyQL P md ops C n L f (listed.setIfInBounds i true) (a.put oi.dst v) → wpAnyQL P md ops C n L (f + 1) listed a := by
  intro f
  induction f with
  | zero =>
    intro listed a inv _ hr hy H
    have hun := (mem_ready.1 hr).1
    refine ⟨fun h => (by rw [h] at hr; cases hr), fun j hj => ?_⟩
    have hjn : j < n := by
      rcases Nat.lt_or_ge j n with h | h
      · exact h
      · exact absurd hj (tail_waits hs hc hn inv _ i rfl hin hun j h)
    refine ⟨hjn, ?_⟩
    by_cases hji : j = i
    · subst hji; exact hy.qOp hi H
    · have := hdone _ _ H j (ready_mono hj hji)
      omega
  | succ f ih =>
    intro listed a inv hfree hr hy H
    have hun := (mem_ready.1 hr).1
    refine ⟨fun h => (by rw [h] at hr; cases hr), fun j hj => ?_⟩
    have hjn : j < n := by
      rcases Nat.lt_or_ge j n with h | h
      · exact h
      · exact absurd hj (tail_waits hs hc hn inv _ i rfl hin hun j h)
    refine ⟨hjn, ?_⟩
    by_cases hji : j = i
    · subst hji; exact hy.qOp hi H
    · have h1 := (H.2 j (ready_mono hj hji)).2
      obtain ⟨hjun, oj, hoj, hall⟩ := mem_ready.1 hj
      have hnot : ∀ e ∈ oj.after, Region.binds md e = true → e.on ≠ i := fun e he hb heq => by
        have h1 := hall e he hb
        rw [heq, getD_both hun] at h1
        cases h1
      have h2 := qOp_put hoj (hfree j oj hoj hji hjun hnot) (fun cs b => hsel i oi cs b hi) (fun cs b => hsel j oj cs b hoj) hy h1
      have hfree' : ∀ k ok, ops[k]? = some ok → k ≠ i → (listed.setIfInBounds j true).getD k true = false →
          (∀ e ∈ ok.after, Region.binds md e = true → e.on ≠ i) → oi.apart ops ok = true := fun k ok hk hki hun hno => by
        refine hfree k ok hk hki ?_ hno
        by_cases hjk : j = k
        · subst hjk; exact hjun
        · rw [getD_set_ne true hjk] at hun; exact hun
      refine qOp_mono (fun a' h3 => ih (listed.setIfInBounds j true) a' (inv.set hj hjn) hfree' (ready_mono hr (Ne.symm hji)) h3.1 ?_) h2
      rw [Array.setIfInBounds_comm _ _ hji]
      exact h3.2
theorem wpAnyQL_lex {n g : Nat} {Lq : Act → Prop} (hsel : Region.noSelect ops = true) (hs : Region.sinkB md ops n = true) (hc : Region.chainB md ops n = true) (hn : n < ops.size) :
    ∀ (l : List Oper) (k : Nat) (listed : Array Bool) (a : Act), (∀ j, j < l.length → l[j]? = ops[k + j]?) → k + l.length = n → HeadInv md ops n listed →
    Region.lexHead md ops g l.length k listed = true → wpQuiet P ops C Lq l a →
    wpAnyQL P md ops C n (fun listed' a' => Region.seqB md ops g n listed' = true ∧ Lq a') l.length listed a
  | [], k, listed, a, _, hk, _, hB, h => by
    have : k = n := by simpa using hk
    subst this
    exact ⟨by simpa [Region.lexHead] using hB, h⟩
  | o :: l, k, listed, a, hl, hk, inv, hB, h => by
    have h0 : ops[k]? = some o := by simpa using (hl 0 (by simp)).symm
    simp only [List.length_cons, Region.lexHead, Bool.and_eq_true] at hB
    obtain ⟨⟨hr, hf⟩, hB'⟩ := hB
    have hkn : k < n := by simp only [List.length_cons] at hk; omega
    have hr' : k ∈ Region.ready md ops listed := by simpa using hr
    have hst : qOp P ops C k (wpQuiet P ops C Lq l) a := by unfold qOp; simp only [h0]; exact h
    obtain ⟨v, hy, hK⟩ := yieldsIn_of_qOp h0 hst
    exact wpAnyQL_first h0 (Region.noSelect_spec hsel) hs hc hn hkn (fun listed' a' hL => seqB_ready hL.1) l.length listed a inv (Region.free_spec h0 hf) hr' hy
      (wpAnyQL_lex hsel hs hc hn l (k + 1) _ _ (fun j hj => by have := hl (j + 1) (by simp; omega); simpa [Nat.add_assoc, Nat.add_comm 1 j] using this) (by simp only [List.length_cons] at hk; omega) (inv.set hr' hkn) hB' hK)
/-- The region, parted behind its first n operations. -/
theorem wp_region_quiet_tail {id : Nat} {Q : Exit → Act → World → Prop} {a : Act} {w : World} {l : List Oper} (C : World → Prop) (n : Nat) (hm : P.follows .mixedOrders = true) (hB : Region.lexTailB .any l.toArray n = true)
    (hC : C w.drew)
    (h : wpQuiet P l.toArray C (fun a' => ∀ w', C w' → wpList P l.toArray Q (l.drop n) a' w') (l.take n) a) : (Code.region id l.toArray true).wp P Q a w := by
  simp only [Region.lexTailB, Bool.and_eq_true, decide_eq_true_eq] at hB
  obtain ⟨⟨⟨⟨hsel, hn⟩, hs⟩, hc⟩, hlex⟩ := hB
  have hn' : n < l.length := by simpa using hn
  have htl : (l.take n).length = n := by simp; omega
  have hdl : (l.drop n).length = l.toArray.size - n := by simp
  have inv0 : HeadInv .any l.toArray n (Array.replicate l.toArray.size false) :=
    ⟨by simp, fun j oj _ hl => (by rw [getD_replicate_false] at hl; cases hl), fun t _ ht => getD_in (by simpa using ht) (getD_replicate_false _ _)⟩
  have H := wpAnyQL_lex (md := .any) (g := l.toArray.size - n) hsel hs hc hn (l.take n) 0 _ a (fun j hj => by
    have hj' : j < n := by rw [htl] at hj; exact hj
    simp [hj']) (by simpa using htl) inv0 (by rw [htl]; exact hlex) h
  refine wp_region_any hm ?_
  have := wpAny_of_headQ (C := C) (Q' := Q) (g := l.toArray.size - n) (fun listed a' w' hw' hL => by
    have := wpAny_of_seq (md := .any) (Q' := Q) (l.drop n) n listed a' w' (fun j => by simp [List.getElem?_drop]) (by rw [hdl]; exact hL.1) (hL.2 w' hw')
    rwa [hdl] at this) _ _ _ w.drew hC H
  rw [htl, show n + (l.toArray.size - n) = l.toArray.size by omega] at this
  exact this
/-- .. at the class 'w after some draws'. -/
theorem wp_region_drew_tail {id : Nat} {Q : Exit → Act → World → Prop} {a : Act} {w : World} {l : List Oper} (n : Nat) (hm : P.follows .mixedOrders = true) (hB : Region.lexTailB .any l.toArray n = true)
    (h : wpQuiet P l.toArray (fun w' => ∃ n, w' = w.drewN n) (fun a' => ∀ w', (∃ n, w' = w.drewN n) → wpList P l.toArray Q (l.drop n) a' w') (l.take n) a) : (Code.region id l.toArray true).wp P Q a w :=
  wp_region_quiet_tail _ n hm hB ⟨1, rfl⟩ h
/-- One operation that yields v in all worlds of the class. -/
theorem quiet_value {o : Oper} {a : Act} {K : Act → Prop} {v : Value} (h : ∀ w, C w → (execOp a.eval o).run P w = .ok (.value v) w) (hk : K (a.put o.dst v)) : o.quiet P a C K :=
  ⟨v, fun w hw => by unfold Oper.quietAt; rw [h w hw]; exact ⟨rfl, rfl⟩, hk⟩
/-- A call that hands back v in all worlds of the class and leaves one of them. -/
theorem quiet_enter {o : Oper} {a : Act} {K : Act → Prop} {v : Value} {f : FuncId} {args : Array Value} (h : ∀ w, C w → (execOp a.eval o).run P w = .ok (.enter f args) w)
    (hc : ∀ w, C w → Calls P f args w (fun e w' => e = .returned v ∧ C w')) (hk : K (a.put o.dst v)) : o.quiet P a C K :=
  ⟨v, fun w hw => by unfold Oper.quietAt; rw [h w hw]; exact ⟨rfl, hc w hw⟩, hk⟩
end
end Go.Proofs.YtlkimfmilccanaaGreat
/-
  A region that draws its order and whose last operation, for which all others must have come, turns what the others read: S holds behind every operation but that one.
-/
namespace Go.Proofs.YtlkimfmilccanaaGreat
section
variable {P : Program} {ops : Array Oper} {md : Region.Mode} {Q : Exit → Act → World → Prop} {S : World → Prop} {st : Nat}
def wpAnyT (P : Program) (md : Region.Mode) (ops : Array Oper) (Q : Exit → Act → World → Prop) (S : World → Prop) (st : Nat) : Nat → Array Bool → Act → World → Prop
  | 0, listed, a, w => Region.ready md ops listed = [] ∧ Q .normal a w
  | fuel + 1, listed, a, w =>
    (Region.ready md ops listed = [] → Q .normal a w) ∧
    ∀ i ∈ Region.ready md ops listed, wpOp P ops Q i (fun a' w' => (i ≠ st → S w') ∧ wpAnyT P md ops Q S st fuel (listed.setIfInBounds i true) a' w') a w
theorem wpAny_of_T : ∀ (fuel : Nat) (listed : Array Bool) (a : Act) (w : World), wpAnyT P md ops Q S st fuel listed a w → wpAny P md ops Q fuel listed a w
  | 0, _, _, _, h => h
  | fuel + 1, _, _, _, h => ⟨h.1, fun i hi => wpOp_mono (fun a' w' h' => wpAny_of_T fuel _ a' w' h'.2) (h.2 i hi)⟩
/-- Operation st waits for operation i. -/
def waitsB (md : Region.Mode) (ops : Array Oper) (st i : Nat) : Bool := match ops[st]? with
  | some o => o.after.any (fun e => Region.binds md e && e.on == i)
  | none => false
theorem first_T {i : Nat} {oi : Oper} {v : Value} (hi : ops[i]? = some oi) (hsel : ∀ (j : Nat) (o : Oper) cs b, ops[j]? = some o → o.op ≠ .select cs b)
    (hQ : ∀ c a w, Q (.panic c) (a.put oi.dst v) w → Q (.panic c) a w) (hw : waitsB md ops st i = true) (hist : i ≠ st) :
    ∀ (fuel : Nat) (listed : Array Bool) (a : Act) (w : World),
      (∀ j oj, ops[j]? = some oj → j ≠ i → listed.getD j true = false → (∀ e ∈ oj.after, Region.binds md e = true → e.on ≠ i) → oi.apart ops oj = true) →
      i ∈ Region.ready md ops listed → YieldsIf P ops S oi v a → S w →
      wpAnyT P md ops Q S st fuel (listed.setIfInBounds i true) (a.put oi.dst v) w → wpAnyT P md ops Q S st (fuel + 1) listed a w := by
  intro fuel
  induction fuel with
  | zero =>
    intro listed a w _ hr hy hS H
    refine ⟨fun h => (by rw [h] at hr; cases hr), fun j hj => ?_⟩
    by_cases hji : j = i
    · subst hji; exact hy.wpOp hi hS ⟨fun _ => hS, H⟩
    · have := ready_mono hj hji
      rw [H.1] at this
      cases this
  | succ fuel ih =>
    intro listed a w hfree hr hy hS H
    refine ⟨fun h => (by rw [h] at hr; cases hr), fun j hj => ?_⟩
    by_cases hji : j = i
    · subst hji; exact hy.wpOp hi hS ⟨fun _ => hS, H⟩
    · have h1 := H.2 j (ready_mono hj hji)
      obtain ⟨hjun, oj, hoj, hall⟩ := mem_ready.1 hj
      have hnot : ∀ e ∈ oj.after, Region.binds md e = true → e.on ≠ i := fun e he hb heq => by
        have h1 := hall e he hb
        have h0 := (mem_ready.1 hr).1
        rw [heq] at h1
        rcases Nat.lt_or_ge i listed.size with h' | h'
        · simp [h'] at h0 h1; rw [h0] at h1; cases h1
        · simp [Array.getElem?_eq_none h'] at h1
      have hjst : j ≠ st := fun e => by
        subst e
        unfold waitsB at hw
        rw [hoj] at hw
        obtain ⟨e, he, hb⟩ := Array.any_eq_true'.1 hw
        simp only [Bool.and_eq_true, beq_iff_eq] at hb
        exact hnot e he hb.1 hb.2
      have h2 := wpOp_putIf hoj (hfree j oj hoj hji hjun hnot) (fun cs b => hsel i oi cs b hi) (fun cs b => hsel j oj cs b hoj) hQ hy h1
      have hfree' : ∀ k ok, ops[k]? = some ok → k ≠ i → (listed.setIfInBounds j true).getD k true = false →
          (∀ e ∈ ok.after, Region.binds md e = true → e.on ≠ i) → oi.apart ops ok = true := fun k ok hk hki hun hno => by
        refine hfree k ok hk hki ?_ hno
        by_cases hjk : j = k
        · subst hjk; exact hjun
        · rw [getD_set_ne true hjk] at hun; exact hun
      refine wpOp_mono (fun a' w' h3 => ⟨h3.2.1, ih (listed.setIfInBounds j true) a' w' hfree' (ready_mono hr (Ne.symm hji)) h3.1 (h3.2.1 hjst) ?_⟩) h2
      rw [Array.setIfInBounds_comm _ _ hji]
      exact h3.2.2
theorem takeT (i : Nat) (d : Option Tmp) (v : Value) {oi : Oper} {fuel : Nat} {listed : Array Bool} {a : Act} {w : World} (hi : ops[i]? = some oi) (hd : oi.dst = d)
    (hs : Region.noSelect ops = true) (hf : Region.free md ops listed i = true) (hr : (Region.ready md ops listed).contains i = true) (hwt : waitsB md ops st i = true) (hst : i ≠ st)
    (hQ : ∀ c a w, Q (.panic c) (a.put oi.dst v) w → Q (.panic c) a w) (hw : Region.wanted oi (yielded ops a.tmps) = true) (hy : ∀ w, S w → (execOp a.eval oi).run P w = .ok (.value v) w) (hS : S w)
    (h : wpAnyT P md ops Q S st fuel (listed.setIfInBounds i true) (a.put d v) w) : wpAnyT P md ops Q S st (fuel + 1) listed a w :=
  first_T hi (Region.noSelect_spec hs) hQ hwt hst fuel listed a w (Region.free_spec hi hf) (by simpa using hr) (.inl ⟨hw, hy⟩) hS (by rw [hd]; exact h)
theorem tU (i : Nat) (d : Option Tmp) (v : Value) {oi : Oper} {fuel : Nat} {listed : Array Bool} {a : Act} {w : World} (hi : ops[i]? = some oi)
    (hy : ∀ w, S w → (execOp a.eval oi).run P w = .ok (.value v) w) (hS : S w) (h : wpAnyT P md ops Q S st fuel (listed.setIfInBounds i true) (a.put d v) w) (hd : oi.dst = d := by rfl)
    (hs : Region.noSelect ops = true := by kernel_rfl) (hf : Region.free md ops listed i = true := by kernel_rfl) (hr : (Region.ready md ops listed).contains i = true := by kernel_rfl) (hwt : waitsB md ops st i = true := by kernel_rfl) (hst : i ≠ st := by decide)
    (hQ : ∀ c a w, Q (.panic c) (a.put oi.dst v) w → Q (.panic c) a w := by exact fun _ _ _ h => h) (hw : Region.wanted oi (yielded ops a.tmps) = true := by rfl) : wpAnyT P md ops Q S st (fuel + 1) listed a w :=
  takeT i d v hi hd hs hf hr hwt hst hQ hw hy hS h
theorem tT (i : Nat) (d : Option Tmp) (v : Value) {oi : Oper} {fuel : Nat} {listed : Array Bool} {a : Act} {w : World} (hi : ops[i]? = some oi)
    (hS : S w) (h : wpAnyT P md ops Q S st fuel (listed.setIfInBounds i true) (a.put d v) w) (hd : oi.dst = d := by rfl)
    (hs : Region.noSelect ops = true := by kernel_rfl) (hf : Region.free md ops listed i = true := by kernel_rfl) (hr : (Region.ready md ops listed).contains i = true := by kernel_rfl) (hwt : waitsB md ops st i = true := by kernel_rfl) (hst : i ≠ st := by decide)
    (hQ : ∀ c a w, Q (.panic c) (a.put oi.dst v) w → Q (.panic c) a w := by exact fun _ _ _ h => h) (hw : Region.wanted oi (yielded ops a.tmps) = true := by rfl)
    (hy : ∀ w, S w → (execOp a.eval oi).run P w = .ok (.value v) w := by intro w hw; first | rfl | (go_simp; done) | (go_simp; rfl)) : wpAnyT P md ops Q S st (fuel + 1) listed a w :=
  takeT i d v hi hd hs hf hr hwt hst hQ hw hy hS h
/-- Just one may come up. -/
theorem readyT (i : Nat) {o : Oper} {fuel : Nat} {listed : Array Bool} {a : Act} {w : World} (hr : Region.ready md ops listed = [i]) (ho : ops[i]? = some o) (hw : Region.wanted o (yielded ops a.tmps) = true)
    (h : ∀ K' : Act → World → Prop, Shut (∀ a w, (i ≠ st → S w) → ((i ≠ st → S w) → wpAnyT P md ops Q S st fuel (listed.setIfInBounds i true) a w) → K' a w) → Oper.wp P o a w K' Q) : wpAnyT P md ops Q S st (fuel + 1) listed a w := by
  refine ⟨fun h0 => (by rw [hr] at h0; cases h0), fun j hj => ?_⟩
  rw [hr] at hj
  obtain rfl : j = i := by simpa using hj
  exact wpOp_step ho (fun K' hK => by
    rw [if_pos hw]
    exact h K' (fun a w hS hW => hK a w ⟨hS, hW hS⟩))
theorem wp_region_T {id : Nat} {a : Act} {w : World} (st : Nat) (hm : P.follows .mixedOrders = true) (hS : S w.drew)
    (h : S w.drew → wpAnyT P .any ops Q S st ops.size (Array.replicate ops.size false) a w.drew) : (Code.region id ops true).wp P Q a w :=
  wp_region_any hm (wpAny_of_T _ _ _ _ (h hS))
end
end Go.Proofs.YtlkimfmilccanaaGreat
/-
  file.sync.
-/
namespace Go.Proofs.YtlkimfmilccanaaGreat
open Go.RowKit Go.Maps Go.WideMaps
theorem src_piece {w : World} {v u : Value} {l : List UInt8} {o n : Nat} (hB : Bytes w 0 v l) (hp : Piece u v.ownBlock o n) (h : o + n ≤ l.length) : Src Tryz.prog 1 42 u ((l.drop o).take n).length (((l.drop o).take n).map byteV) w := by
  obtain ⟨ad, cp, rfl, _, hpos⟩ := hp
  have hl : ((l.drop o).take n).length = n := by rw [List.length_take, List.length_drop]; omega
  rw [hl]
  have one : ∀ x ∈ ((l.drop o).take n).map byteV, x.oneCell' = true := fun x hx => by
    obtain ⟨i, _, rfl⟩ := List.mem_map.1 hx
    rfl
  rcases Nat.eq_zero_or_pos n with e | e
  · subst e
    have e2 : ((l.drop o).take 0).map byteV = [] := by simp
    rw [e2]
    cases ad with
    | none => exact Src.ofNil w Tryz.underlying42 cp
    | some a => exact Src.ofSlice w Tryz.underlying42 a 0 cp [] rfl (fun j u hu => by simp at hu) (fun u hu => by cases hu)
  · obtain ⟨g, hg, rfl⟩ := hpos e
    exact Src.ofSlice w Tryz.underlying42 ⟨g, o, none⟩ n cp _ (by rw [List.length_map, hl, Nat.mul_one]) (piece_cells hB hg h) one
/-- Behind an append to the safe row and the store of the field. -/
theorem mid_safe {w w2 : World} {c : FC} {F : AF} {v2 : Value} {M : List UInt8} (h : FileAt w c F) (hM2 : Mv w.drew c.fv w2 v2) (hB2 : Bytes w2 0 v2 M) :
    Mid w c ⟨c.g, c.dm, c.sv, v2⟩ F F.seen M (w2.setCell ⟨c.g, 1, none⟩ v2) := by
  have hs2 := hM2.gr.size
  have own : ∀ b, v2.ownBlock = some b → c.fv.ownBlock = some b ∨ w.heap.size ≤ b := fun b hb => hM2.own b hb
  have k2 : ∀ b, b < w.heap.size → c.fv.ownBlock ≠ some b → w2.heap[b]? = w.heap[b]? := fun b hb hn => hM2.gr.block b hb (fun e => hn e.symm)
  have hg := lt_of_some h.cells
  have hdm := h.dirty.lt
  have hv2g : v2.ownBlock ≠ some c.g := fun e => by
    rcases own _ e with x | x
    · exact h.fg x
    · omega
  have ec : w2.heap[c.g]? = some (.cells #[c.sv, c.fv, .map (some c.dm)] 99 (0, 0)) := by rw [k2 c.g hg h.fg]; exact h.cells
  have ne : ∀ b, b ≠ c.g → (w2.setCell ⟨c.g, 1, none⟩ v2).heap[b]? = w2.heap[b]? := fun b hb => Below.heap_setCell w2 ⟨c.g, 1, none⟩ v2 b hb
  refine ⟨?_, h.seen.same (fun k hk => ?_), hB2.same (fun k hk => ne k (fun e => hv2g (e ▸ hk))), ownsMap_same h.dirty ?_, h.sg, hv2g, fun b hb hb' => ?_, rfl, ?_, fun b hb => ?_⟩
  · rw [heap_setCell_same w2 c.g 1 _ _ _ ec]; rfl
  · rw [ne k (fun e => h.sg (e ▸ hk)), k2 k (h.seen.lt k hk) (fun x => h.sf k hk x)]
  · rw [ne c.dm (fun e => h.gd e.symm), k2 c.dm hdm h.fd]
  · rcases own b hb' with x | x
    · exact h.sf b hb x
    · have := h.seen.lt b hb; omega
  · refine ⟨hM2.gr.os, hM2.gr.tape, hM2.gr.output, by simpa [World.setCell] using hs2, fun b hb hn => ?_⟩
    rw [ne b (fun e => hn (.inl e)), k2 b hb (fun x => hn (.inr (.inr (.inr x))))]
  · rcases hb with rfl | rfl | hb | hb
    · exact .inl (.inl rfl)
    · exact .inl (.inr (.inl rfl))
    · exact .inl (.inr (.inr (.inl hb)))
    · rcases own b hb with x | x
      · exact .inl (.inr (.inr (.inr x)))
      · exact .inr x
section
variable {w0 w w' : World} {c c' : FC} {F : AF} {L M M' : List UInt8}
theorem Mid.c0 (h : Mid w0 c c' F L M w) : w.cell? ⟨c'.g, 0, none⟩ = some c'.sv := by rw [cell_of_row w c'.g 0 _ _ (0, 0) h.cells]; rfl
theorem Mid.c1 (h : Mid w0 c c' F L M w) : w.cell? ⟨c'.g, 1, none⟩ = some c'.fv := by rw [cell_of_row w c'.g 1 _ _ (0, 0) h.cells]; rfl
theorem Mid.fz (h : Mid w0 c c' F L M w) (i : Nat) : w.frozen? ⟨c'.g, i, none⟩ = false := frozen_of_row w c'.g i _ _ h.cells
theorem Mid.lt (h : Mid w0 c c' F L M w) : ∀ b, c'.has b → b < w.heap.size := by
  rintro b (rfl | rfl | hb | hb)
  · exact lt_of_some h.cells
  · exact h.dirty.lt
  · exact h.seen.lt b hb
  · exact h.safe.lt b hb
theorem Mid.below (h : Mid w0 c c' F L M w) (t : Below w.heap.size w w') : Mid w0 c c' F L M w' := by
  have e : ∀ b, c'.has b → w'.heap[b]? = w.heap[b]? := fun b hb => t.block b (h.lt b hb)
  exact ⟨by rw [e _ (.inl rfl)]; exact h.cells, h.seen.same (fun k hk => e k (.inr (.inr (.inl hk)))), h.safe.same (fun k hk => e k (.inr (.inr (.inr hk)))), ownsMap_same h.dirty (e _ (.inr (.inl rfl))), h.sg, h.fg, h.sf, h.step.trans (FStep.of_turn (Turn.of_below t _))⟩
/-- Only a block that is not the file's has turned. -/
theorem Mid.other {r : Nat} (h : Mid w0 c c' F L M w) (t : w.grownBy w' (some r)) (hr : ¬ c'.has r) (hr0 : w0.heap.size ≤ r) : Mid w0 c c' F L M w' := by
  have e : ∀ b, c'.has b → w'.heap[b]? = w.heap[b]? := fun b hb => t.block b (h.lt b hb) (fun x => hr (by cases x; exact hb))
  refine ⟨by rw [e _ (.inl rfl)]; exact h.cells, h.seen.same (fun k hk => e k (.inr (.inr (.inl hk)))), h.safe.same (fun k hk => e k (.inr (.inr (.inr hk)))), ownsMap_same h.dirty (e _ (.inr (.inl rfl))), h.sg, h.fg, h.sf, h.step.g, h.step.turn.trans (Turn.of_grown t) (fun b hb => ?_), h.step.own⟩
  have : r = b := by simpa using hb
  exact .inr (this ▸ hr0)
/-- The safe row has turned. -/
theorem Mid.copied (h : Mid w0 c c' F L M w) (hB : Bytes w' 0 c'.fv M') (t : w.grownBy w' c'.fv.ownBlock) : Mid w0 c c' F L M' w' := by
  have e : ∀ b, b < w.heap.size → c'.fv.ownBlock ≠ some b → w'.heap[b]? = w.heap[b]? := fun b hb hn => t.block b hb (fun x => hn x.symm)
  obtain ⟨es, ck, hb, _⟩ := h.dirty
  exact ⟨by rw [e _ (lt_of_some h.cells) h.fg]; exact h.cells, h.seen.same (fun k hk => e k (h.seen.lt k hk) (h.sf k hk)), hB, ownsMap_same h.dirty (e _ h.dirty.lt (h.safe.notMap hb)), h.sg, h.fg, h.sf, h.step.trans (FStep.of_turn ((Turn.of_grown t).mono (fun b hb => .inr (.inr (.inr hb)))))⟩
/-- A new set of dirty sectors: none. -/
theorem Mid.fresh (h : Mid w0 c c' F L M w) (hok : AF.Ok ⟨L, M, fun _ => false⟩) : ∃ c'', c''.g = c'.g ∧ FileAt ((w.alloc (.map #[] 0)).setCell ⟨c'.g, 2, none⟩ (.map (some w.heap.size))) c'' ⟨L, M, fun _ => false⟩ ∧ FStep c c'' w0 ((w.alloc (.map #[] 0)).setCell ⟨c'.g, 2, none⟩ (.map (some w.heap.size))) := by
  have hg := lt_of_some h.cells
  have e1 : ∀ b, b < w.heap.size → (w.alloc (.map #[] 0)).heap[b]? = w.heap[b]? := fun b hb => Below.heap_alloc w _ b hb
  have ec : (w.alloc (.map #[] 0)).heap[c'.g]? = some (.cells #[c'.sv, c'.fv, .map (some c'.dm)] 99 (0, 0)) := by rw [e1 _ hg]; exact h.cells
  have ne : ∀ b, b ≠ c'.g → ((w.alloc (.map #[] 0)).setCell ⟨c'.g, 2, none⟩ (.map (some w.heap.size))).heap[b]? = (w.alloc (.map #[] 0)).heap[b]? := fun b hb => Below.heap_setCell _ ⟨c'.g, 2, none⟩ _ b hb
  have hsz := h.step.turn.size
  refine ⟨⟨c'.g, w.heap.size, c'.sv, c'.fv⟩, rfl, ⟨hok, ?_, h.seen.same (fun k hk => ?_), h.safe.same (fun k hk => ?_), ?_, h.sg, h.fg, h.sf⟩, h.step.g, ?_, fun b hb => ?_⟩
  · rw [heap_setCell_same _ c'.g 2 _ _ _ ec]; rfl
  · rw [ne k (fun e => h.sg (e ▸ hk)), e1 k (h.seen.lt k hk)]
  · rw [ne k (fun e => h.fg (e ▸ hk)), e1 k (h.safe.lt k hk)]
  · have e0 : dirtyD ⟨L, M, fun _ => false⟩ = .map [] := by unfold dirtyD AF.dirtyL; simp
    rw [e0]
    exact ownsMap_same ((World.ownsMap_made w Tryz.prog 3 (unitElem (H := Unit))).mono (by omega)) (ne _ (by show w.heap.size ≠ c'.g; omega))
  · have tt : Turn c'.has w ((w.alloc (.map #[] 0)).setCell ⟨c'.g, 2, none⟩ (.map (some w.heap.size))) := ⟨rfl, rfl, rfl, by simp [World.setCell], fun b hb hn => by rw [ne b (fun e => hn (.inl e)), e1 b hb]⟩
    exact h.step.turn.trans tt h.step.own
  · rcases hb with rfl | rfl | hb | hb
    · exact h.step.own _ (.inl rfl)
    · exact .inr hsz
    · exact h.step.own b (.inr (.inr (.inl hb)))
    · exact h.step.own b (.inr (.inr (.inr hb)))
end
/-! ### what the safe row holds on the way -/
def safe1 (F : AF) : List UInt8 := F.safe ++ F.seen.drop F.safe.length
theorem safe1_length {F : AF} (h : F.Ok) : (safe1 F).length = F.seen.length := by
  have := h.le
  simp [safe1]; omega
def mixL (F : AF) (left : Lit → Bool) : List UInt8 := (List.range F.seen.length).map (fun i => if (F.dirty (i / 64) && !left (.int .i64 ((i / 64 : Nat) : Int))) = true then F.seen.getD i 0 else (safe1 F).getD i 0)
theorem mixL_length (F : AF) (left : Lit → Bool) : (mixL F left).length = F.seen.length := by simp [mixL]
theorem getD_at {l : List UInt8} {i : Nat} (h : i < l.length) : l[i]? = some (l.getD i 0) := by
  rw [List.getD_eq_getElem?_getD, List.getElem?_eq_getElem h]; rfl
theorem mixL_at (F : AF) (left : Lit → Bool) (i : Nat) (h : i < F.seen.length) : (mixL F left)[i]? = some (if (F.dirty (i / 64) && !left (.int .i64 ((i / 64 : Nat) : Int))) = true then F.seen.getD i 0 else (safe1 F).getD i 0) := by
  unfold mixL
  rw [List.getElem?_map, List.getElem?_range h]; rfl
theorem mixL_start {F : AF} (h : F.Ok) : mixL F (Maps.has (dirtyD F)) = safe1 F := by
  apply List.ext_getElem?
  intro i
  by_cases hi : i < F.seen.length
  · rw [mixL_at _ _ i hi, getD_at (by rw [safe1_length h]; exact hi)]
    have : (F.dirty (i / 64) && !Maps.has (dirtyD F) (.int .i64 ((i / 64 : Nat) : Int))) = false := by
      rw [dirty_has h, decide_eq_true (by omega), Int.toNat_natCast]
      cases F.dirty (i / 64) <;> rfl
    rw [this]; rfl
  · rw [List.getElem?_eq_none (by rw [mixL_length]; omega), List.getElem?_eq_none (by rw [safe1_length h]; omega)]
theorem mixL_end {F : AF} (h : F.Ok) {left : Lit → Bool} (hl : ∀ kl, left kl = false) : mixL F left = F.seen := by
  apply List.ext_getElem?
  intro i
  by_cases hi : i < F.seen.length
  · rw [mixL_at _ _ i hi, hl, getD_at hi]
    cases hd : F.dirty (i / 64) with
    | true => rfl
    | false =>
      obtain ⟨h1, h2⟩ := h.clean i hi hd
      have e : (safe1 F).getD i 0 = F.seen.getD i 0 := by
        unfold safe1
        rw [List.getD_eq_getElem?_getD, List.getD_eq_getElem?_getD, List.getElem?_append_left h1, h2]
      simp only [Bool.false_and, Bool.false_eq_true, if_false, e]
  · rw [List.getElem?_eq_none (by rw [mixL_length]; omega), List.getElem?_eq_none (by omega)]
theorem mixL_step {F : AF} {left : Lit → Bool} {s : Nat} (hd : F.dirty s = true) :
    (mixL F left).take (sFrom s F.seen.length) ++ (F.seen.drop (sFrom s F.seen.length)).take (sTo s F.seen.length - sFrom s F.seen.length) ++ (mixL F left).drop (sFrom s F.seen.length + (sTo s F.seen.length - sFrom s F.seen.length)) = mixL F (fun z => left z && !z.sameKey (.int .i64 (s : Int))) := by
  have h1 := sFromTo s F.seen.length
  have h2 := sTo_le s F.seen.length
  have h3 : sFrom s F.seen.length = min (64 * s) F.seen.length := rfl
  have h4 : sTo s F.seen.length = min (sFrom s F.seen.length + 64) F.seen.length := rfl
  have hl := mixL_length F left
  rw [Nat.add_sub_cancel' h1]
  apply List.ext_getElem?
  intro i
  by_cases hi : i < F.seen.length
  · rw [mixL_at F _ i hi]
    by_cases ha : i < sFrom s F.seen.length
    · rw [List.append_assoc, List.getElem?_append_left (by rw [List.length_take]; omega), List.getElem?_take_of_lt ha, mixL_at F _ i hi]
      have hne : ((i / 64 : Nat) : Int) ≠ (s : Int) := by omega
      simp only [Lit.sameKey, hne, and_false, decide_false, Bool.not_false, Bool.and_true]
    · by_cases hb : i < sTo s F.seen.length
      · rw [List.getElem?_append_left (by simp; omega), List.getElem?_append_right (by rw [List.length_take]; omega), List.getElem?_take_of_lt (by rw [List.length_take]; omega), List.getElem?_drop]
        have e1 : sFrom s F.seen.length + (i - ((mixL F left).take (sFrom s F.seen.length)).length) = i := by rw [List.length_take]; omega
        have e2 : i / 64 = s := by omega
        rw [e1, e2, getD_at hi, hd]
        simp [Lit.sameKey]
      · rw [List.getElem?_append_right (by simp; omega), List.getElem?_drop]
        have e1 : sTo s F.seen.length + (i - ((mixL F left).take (sFrom s F.seen.length) ++ (F.seen.drop (sFrom s F.seen.length)).take (sTo s F.seen.length - sFrom s F.seen.length)).length) = i := by simp; omega
        rw [e1, mixL_at F _ i hi]
        have hne : ((i / 64 : Nat) : Int) ≠ (s : Int) := by omega
        simp only [Lit.sameKey, hne, and_false, decide_false, Bool.not_false, Bool.and_true]
  · rw [List.getElem?_eq_none (by simp; omega), List.getElem?_eq_none (by rw [mixL_length]; omega)]
end Go.Proofs.YtlkimfmilccanaaGreat
