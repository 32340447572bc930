/-
  The disk in memory: which blocks it owns, what they hold; what a step may turn.
-/
import Derived.Test.YtlkimfmilccanaaGreatFiles
namespace Go.Proofs.YtlkimfmilccanaaGreat
open Go.RowKit Go.Maps
/-- From w to w' nothing that was there has turned but the blocks in S. -/
structure Turn (S : Nat → Prop) (w w' : World) : Prop where
  os : w'.os = w.os
  tape : w'.tape = w.tape
  output : w'.output = w.output
  size : w.heap.size ≤ w'.heap.size
  block : ∀ b, b < w.heap.size → ¬ S b → w'.heap[b]? = w.heap[b]?
section
variable {S T U : Nat → Prop} {w w1 w2 : World}
theorem Turn.refl (S : Nat → Prop) (w : World) : Turn S w w := ⟨rfl, rfl, rfl, Nat.le_refl _, fun _ _ _ => rfl⟩
theorem Turn.trans (h : Turn S w w1) (k : Turn T w1 w2) (hT : ∀ b, T b → S b ∨ w.heap.size ≤ b) : Turn S w w2 :=
  ⟨k.os.trans h.os, k.tape.trans h.tape, k.output.trans h.output, Nat.le_trans h.size k.size, fun b hb hn => (k.block b (Nat.lt_of_lt_of_le hb h.size) (fun x => by
    rcases hT b x with y | y
    · exact hn y
    · omega)).trans (h.block b hb hn)⟩
theorem Turn.mono (h : Turn S w w1) (hT : ∀ b, S b → T b) : Turn T w w1 := ⟨h.os, h.tape, h.output, h.size, fun b hb hn => h.block b hb (fun x => hn (hT b x))⟩
theorem Turn.of_below (h : Below w.heap.size w w1) (S : Nat → Prop) : Turn S w w1 := ⟨h.os, h.tape, h.output, h.size, fun b hb _ => h.block b hb⟩
theorem Turn.of_grown {row : Option Nat} (h : w.grownBy w1 row) : Turn (fun b => row = some b) w w1 := ⟨h.os, h.tape, h.output, h.size, fun b hb hn => h.block b hb (fun e => hn e.symm)⟩
theorem Turn.below {B : Nat} (h : Turn S w w1) (hB : B ≤ w.heap.size) (hS : ∀ b, S b → B ≤ b) : Below B w w1 := ⟨h.os, h.tape, h.output, h.size, fun b hb => h.block b (by omega) (fun x => by have := hS b x; omega)⟩
theorem Turn.setCell (w : World) (a : Addr) (v : Value) : Turn (fun b => b = a.block) w (w.setCell a v) := ⟨rfl, rfl, rfl, by simp [World.setCell], fun b _ hn => Below.heap_setCell w a v b hn⟩
theorem Turn.alloc (w : World) (o : Obj) (S : Nat → Prop) : Turn S w (w.alloc o) := ⟨rfl, rfl, rfl, by simp, fun b hb _ => Below.heap_alloc w o b hb⟩
theorem Turn.drew (h : Turn S w w1) : Turn S w w1.drew := ⟨h.os, h.tape, h.output, h.size, h.block⟩
theorem Turn.drewN (h : Turn S w w1) (n : Nat) : Turn S w (w1.drewN n) := ⟨h.os, h.tape, h.output, h.size, h.block⟩
end
theorem law9 : Keyed Tryz.prog 9 := string_keyed Tryz.underlying9
theorem law3 : Keyed Tryz.prog 3 := int_keyed Tryz.underlying3
section
variable {H : Type} {P : Program} {k : TypeId} {R : Value → Option (DataW H × List MemPlace)} {w w' : World} {b r n : Nat} {D : DataW H} {left : Lit → Bool} {cnt : Nat}
theorem ownsMap_same (h : w.ownsMap P k R b n D) (e : w'.heap[b]? = w.heap[b]?) : w'.ownsMap P k R b n D := by
  obtain ⟨es, clock, hb, r⟩ := h
  exact ⟨es, clock, by rw [e]; exact hb, r⟩
theorem ranges_same (h : w.ranges P k R b r n D left cnt) (e1 : w'.heap[b]? = w.heap[b]?) (e2 : w'.heap[r]? = w.heap[r]?) : w'.ranges P k R b r n D left cnt := by
  obtain ⟨es, clock, since, seen, c0, hb, F, hs, hD, hr, rest⟩ := h
  exact ⟨es, clock, since, seen, c0, by rw [e1]; exact hb, F, hs, hD, by rw [e2]; exact hr, rest⟩
theorem ownsMap_exact (h : w.ownsMap P k R b n D) {m : Nat} (hm : Maps.size D ≤ m) : w.ownsMap P k R b m D := by
  obtain ⟨es, clock, hb, F, hs, hD⟩ := h
  refine ⟨es, clock, hb, F, ?_, hD⟩
  rw [hD] at hm
  simpa [Maps.size, length_sorted] using hm
theorem ownsMap_elems (h : w.ownsMap P k R b n D) : ∃ es, D = .map es ∧ ∀ p ∈ es, KeysOf P k p.1 ∧ ∃ v ps, R v = some (p.2, ps) := by
  obtain ⟨es, clock, hb, F, hs, hD⟩ := h
  refine ⟨_, hD, fun p hp => ⟨fit_keys F p (mem_sorted.1 hp), ?_⟩⟩
  obtain ⟨x, hx, rfl⟩ := List.mem_map.1 (mem_sorted.1 hp)
  obtain ⟨y, hy⟩ := F.reads x hx
  obtain ⟨z, hz, e⟩ := WideElems.rd_val hy
  rw [WideElems.rg_of hy, e]
  exact ⟨_, _, hz⟩
end
/-! ### dirty sectors -/
def dirtyE (s : Nat) : Lit × DataW Unit := (.int .i64 (s : Int), .agg [])
def dirtyD (F : AF) : DataW Unit := .map (F.dirtyL.map dirtyE)
theorem dirty_canon (F : AF) : Canon (dirtyD F) := by
  refine ⟨_, rfl, ?_, fun p hp => ?_⟩
  · rw [List.pairwise_map]
    refine (List.pairwise_lt_range.filter _).imp (fun {a b} h => ?_)
    simp [dirtyE, Lit.before, h]
  · obtain ⟨s, _, rfl⟩ := List.mem_map.1 hp
    exact trivial
theorem dirty_has {F : AF} (h : F.Ok) (s : Int) : Maps.has (dirtyD F) (.int .i64 s) = (decide (0 ≤ s) && F.dirty s.toNat) := by
  unfold dirtyD
  rw [Maps.has_eq]
  rw [Bool.eq_iff_iff, List.any_eq_true, Bool.and_eq_true, decide_eq_true_eq]
  constructor
  · rintro ⟨p, hp, hk⟩
    obtain ⟨x, hx, rfl⟩ := List.mem_map.1 hp
    have e : (x : Int) = s := by simpa [dirtyE, Lit.sameKey] using hk
    subst e
    exact ⟨by omega, by rw [Int.toNat_natCast]; exact (AF.mem_dirtyL h x).1 hx⟩
  · rintro ⟨h0, hd⟩
    refine ⟨_, List.mem_map.2 ⟨s.toNat, (AF.mem_dirtyL h _).2 hd, rfl⟩, ?_⟩
    simp [dirtyE, Lit.sameKey]; omega
theorem dirty_size {F : AF} (h : F.Ok) : Maps.size (dirtyD F) ≤ 16384 := by
  have := AF.dirtyL_length h
  simpa [dirtyD, Maps.size] using this
/-- A set of numbers in memory that has just the dirty ones is that set. -/
theorem dirty_of_has {w : World} {b n : Nat} {D : DataW Unit} {F : AF} (h : w.ownsMap Tryz.prog 3 unitElem b n D) (hF : F.Ok) (hh : ∀ s : Int, Maps.has D (.int .i64 s) = (decide (0 ≤ s) && F.dirty s.toNat)) : w.ownsMap Tryz.prog 3 unitElem b 16384 (dirtyD F) := by
  obtain ⟨es, hD, hes⟩ := ownsMap_elems h
  have kind : ∀ (es' : List (Lit × DataW Unit)), (∀ p ∈ es', ∃ x : Int, p.1 = .int .i64 x) → ∀ kl, Maps.has (.map es') kl = true → ∃ x, kl = .int .i64 x := by
    intro es' hk kl hkl
    obtain ⟨p, hp, e⟩ := List.any_eq_true.1 hkl
    obtain ⟨x, hx⟩ := hk p hp
    exact ⟨x, by rw [← WideAt.sameKey_eq e, hx]⟩
  have k1 : ∀ p ∈ es, ∃ x : Int, p.1 = .int .i64 x := fun p hp => by
    obtain ⟨⟨v, hv⟩, _⟩ := hes p hp
    obtain ⟨x, _, hx, _⟩ := Maps.keyOf_int_inv Tryz.underlying3 hv
    exact ⟨x, hx⟩
  have k2 : ∀ p ∈ F.dirtyL.map dirtyE, ∃ x : Int, p.1 = .int .i64 x := fun p hp => by
    obtain ⟨s, _, rfl⟩ := List.mem_map.1 hp
    exact ⟨_, rfl⟩
  have e : D = dirtyD F := by
    refine Maps.ext (h.canon law3) (dirty_canon F) (fun kl => ?_) (fun kl z hkl => ?_)
    · rw [Bool.eq_iff_iff]
      constructor
      · intro x
        obtain ⟨s, rfl⟩ := kind es k1 kl (hD ▸ x)
        rw [dirty_has hF, ← hh]; exact x
      · intro x
        obtain ⟨s, rfl⟩ := kind _ k2 kl x
        rw [dirty_has hF, ← hh] at x; exact x
    · obtain ⟨s, rfl⟩ := kind es k1 kl (hD ▸ hkl)
      have at1 : ∀ (es' : List (Lit × DataW Unit)), (∀ p ∈ es', p.2 = .agg []) → Maps.has (.map es') (.int .i64 s) = true → (DataW.map es').atKey (.int .i64 s) z = .agg [] := by
        intro es' hv hk
        obtain ⟨p, hp, e⟩ := List.any_eq_true.1 hk
        unfold DataW.atKey
        simp only
        cases hq : es'.find? (fun p => p.1.sameKey (.int .i64 s)) with
        | none => exact absurd e (by have := (List.find?_eq_none.1 hq) p hp; simpa using this)
        | some q => exact hv q (List.mem_of_find?_eq_some hq)
      have h2 : Maps.has (dirtyD F) (.int .i64 s) = true := by rw [dirty_has hF, ← hh]; exact hkl
      rw [show (dirtyD F).atKey (.int .i64 s) z = .agg [] from at1 _ (fun p hp => by obtain ⟨x, _, rfl⟩ := List.mem_map.1 hp; rfl) h2]
      subst hD
      exact at1 _ (fun p hp => by
        obtain ⟨_, v, ps, hv⟩ := hes p hp
        have := (unitElem_inv hv).2
        exact congrArg Prod.fst this) hkl
  subst e
  exact ownsMap_exact h (dirty_size hF)
/-! ### one file -/
structure FC where
  g : Nat
  dm : Nat
  sv : Value
  fv : Value
def FC.has (c : FC) (b : Nat) : Prop := b = c.g ∨ b = c.dm ∨ c.sv.ownBlock = some b ∨ c.fv.ownBlock = some b
structure FileAt (w : World) (c : FC) (F : AF) : Prop where
  ok : F.Ok
  cells : w.heap[c.g]? = some (.cells #[c.sv, c.fv, .map (some c.dm)] 99 (0, 0))
  seen : Bytes w 0 c.sv F.seen
  safe : Bytes w 0 c.fv F.safe
  dirty : w.ownsMap Tryz.prog 3 (unitElem (H := Unit)) c.dm 16384 (dirtyD F)
  sg : c.sv.ownBlock ≠ some c.g
  fg : c.fv.ownBlock ≠ some c.g
  sf : ∀ b, c.sv.ownBlock = some b → c.fv.ownBlock ≠ some b
theorem Bytes.same {w w' : World} {B : Nat} {v : Value} {l : List UInt8} (h : Bytes w B v l) (e : ∀ k, v.ownBlock = some k → w'.heap[k]? = w.heap[k]?) : Bytes w' B v l := by
  refine ⟨h.1, ?_⟩
  rcases h.2 with hn | ⟨g, cap, cur, rfl, hb, hgg, rest⟩
  · exact .inl hn
  · exact .inr ⟨g, cap, cur, rfl, hb, by rw [e g rfl]; exact hgg, rest⟩
theorem Bytes.shape {w : World} {B : Nat} {v : Value} {l : List UInt8} (h : Bytes w B v l) : ∃ ad c, v = .slice ad l.length c := by
  rcases h.2 with hn | ⟨g, cap, cur, rfl, _⟩
  · exact ⟨none, 0, by rw [hn.1, hn.2]⟩
  · exact ⟨_, _, rfl⟩
theorem lt_of_some {w : World} {b : Nat} {o : Obj} (h : w.heap[b]? = some o) : b < w.heap.size := (Array.getElem?_eq_some_iff.1 h).1
section
variable {w w' : World} {c : FC} {F : AF}
theorem FileAt.lt (h : FileAt w c F) : ∀ b, c.has b → b < w.heap.size := by
  rintro b (rfl | rfl | hb | hb)
  · exact lt_of_some h.cells
  · exact h.dirty.lt
  · exact h.seen.lt b hb
  · exact h.safe.lt b hb
theorem FileAt.gd (h : FileAt w c F) : c.g ≠ c.dm := fun e => by
  obtain ⟨es, ck, hb, _⟩ := h.dirty
  have := h.cells
  rw [e, hb] at this
  cases this
theorem Bytes.notMap {w : World} {B : Nat} {v : Value} {l : List UInt8} {es : Array MapEntry} {ck m : Nat} (h : Bytes w B v l) (hb : w.heap[m]? = some (.map es ck)) : v.ownBlock ≠ some m := fun e => by
  rcases h.2 with hn | ⟨g, cap, cur, rfl, _, hgg, _⟩
  · rw [hn.1] at e; cases e
  · have : g = m := by simpa [Value.ownBlock] using e
    subst this
    rw [hgg] at hb; cases hb
theorem FileAt.sd (h : FileAt w c F) : c.sv.ownBlock ≠ some c.dm := by
  obtain ⟨es, ck, hb, _⟩ := h.dirty
  exact h.seen.notMap hb
theorem FileAt.fd (h : FileAt w c F) : c.fv.ownBlock ≠ some c.dm := by
  obtain ⟨es, ck, hb, _⟩ := h.dirty
  exact h.safe.notMap hb
theorem FileAt.same (h : FileAt w c F) (e : ∀ b, c.has b → w'.heap[b]? = w.heap[b]?) : FileAt w' c F :=
  ⟨h.ok, by rw [e _ (.inl rfl)]; exact h.cells, h.seen.same (fun k hk => e k (.inr (.inr (.inl hk)))), h.safe.same (fun k hk => e k (.inr (.inr (.inr hk)))), ownsMap_same h.dirty (e _ (.inr (.inl rfl))), h.sg, h.fg, h.sf⟩
theorem FileAt.turn {S : Nat → Prop} (h : FileAt w c F) (t : Turn S w w') (hn : ∀ b, c.has b → ¬ S b) : FileAt w' c F := h.same (fun b hb => t.block b (h.lt b hb) (hn b hb))
theorem FileAt.c0 (h : FileAt w c F) : w.cell? ⟨c.g, 0, none⟩ = some c.sv := by rw [cell_of_row w c.g 0 _ _ (0, 0) h.cells]; rfl
theorem FileAt.c1 (h : FileAt w c F) : w.cell? ⟨c.g, 1, none⟩ = some c.fv := by rw [cell_of_row w c.g 1 _ _ (0, 0) h.cells]; rfl
theorem FileAt.c2 (h : FileAt w c F) : w.cell? ⟨c.g, 2, none⟩ = some (.map (some c.dm)) := by rw [cell_of_row w c.g 2 _ _ (0, 0) h.cells]; rfl
theorem FileAt.fz (h : FileAt w c F) (i : Nat) : w.frozen? ⟨c.g, i, none⟩ = false := frozen_of_row w c.g i _ _ h.cells
end
/-- A step on a file: nothing else has turned, what it owns now was its own or is new. -/
structure FStep (c c' : FC) (w w' : World) : Prop where
  g : c'.g = c.g
  turn : Turn c.has w w'
  own : ∀ b, c'.has b → c.has b ∨ w.heap.size ≤ b
theorem FStep.refl (c : FC) (w : World) : FStep c c w w := ⟨rfl, Turn.refl _ _, fun _ h => .inl h⟩
theorem FStep.trans {c c1 c2 : FC} {w w1 w2 : World} (h : FStep c c1 w w1) (k : FStep c1 c2 w1 w2) : FStep c c2 w w2 := by
  refine ⟨k.g.trans h.g, h.turn.trans k.turn h.own, fun b hb => ?_⟩
  rcases k.own b hb with x | x
  · exact h.own b x
  · exact .inr (Nat.le_trans h.turn.size x)
theorem FStep.of_turn {c : FC} {w w' : World} (h : Turn c.has w w') : FStep c c w w' := ⟨rfl, h, fun _ x => .inl x⟩
/-! ### the disk -/
def ptrElem : Value → Option (DataW Unit × List MemPlace)
  | .pointer (some a) => if a = ⟨a.block, 0, none⟩ then some (.lit (.int .i64 (a.block : Int)), []) else none
  | .pointer none => some (.nil, [])
  | _ => none
theorem ptrElem_some (g : Nat) : ptrElem (.pointer (some ⟨g, 0, none⟩)) = some (.lit (.int .i64 (g : Int)), []) := by simp [ptrElem]
theorem ptrElem_inv {v : Value} {g : Nat} {ps : List MemPlace} (h : ptrElem v = some (.lit (.int .i64 (g : Int)), ps)) : v = .pointer (some ⟨g, 0, none⟩) := by
  unfold ptrElem at h
  split at h
  · split at h
    · rename_i a e
      simp only [Option.some.injEq, Prod.mk.injEq, DataW.lit.injEq, Lit.int.injEq, true_and] at h
      have : a.block = g := by omega
      rw [e, this]
    · cases h
  · simp at h
  · cases h
def fsD (con : Key → FC) (fs : FList) : DataW Unit := .map (fs.map (fun p => (.string p.1, .lit (.int .i64 ((con p.1).g : Int)))))
theorem fsD_find (con : Key → FC) (fs : FList) (k : Key) : (fs.map (fun p => ((.string p.1, .lit (.int .i64 ((con p.1).g : Int))) : Lit × DataW Unit))).find? (fun p => p.1.sameKey (.string k)) = (fget fs k).map (fun _ => (.string k, .lit (.int .i64 ((con k).g : Int)))) := by
  induction fs with
  | nil => rfl
  | cons p r ih =>
    rw [List.map_cons, List.find?_cons, fget_cons]
    by_cases e : p.1 = k
    · have : Lit.sameKey (.string p.1) (.string k) = true := by simp [Lit.sameKey, e]
      rw [this, if_pos e]; simp [e]
    · have : Lit.sameKey (.string p.1) (.string k) = false := by simp [Lit.sameKey, e]
      rw [this, if_neg e]; exact ih
theorem fsD_has (con : Key → FC) (fs : FList) (k : Key) : Maps.has (fsD con fs) (.string k) = (fget fs k).isSome := by
  unfold fsD
  rw [Maps.has_eq]
  have h := fsD_find con fs k
  cases hq : fget fs k with
  | none =>
    rw [hq] at h
    rw [Option.isSome_none, List.any_eq_false]
    exact fun p hp => by simpa using (List.find?_eq_none.1 h) p hp
  | some F =>
    rw [hq, Option.map_some] at h
    have h2 := List.find?_some h
    exact List.any_eq_true.2 ⟨_, List.mem_of_find?_eq_some h, h2⟩
theorem fsD_at {con : Key → FC} {fs : FList} {k : Key} {F : AF} (h : fget fs k = some F) (z : DataW Unit) : (fsD con fs).atKey (.string k) z = .lit (.int .i64 ((con k).g : Int)) := by
  have h1 := fsD_find con fs k
  rw [h] at h1
  unfold DataW.atKey fsD
  simp only
  rw [h1]; rfl
theorem fsD_none {con : Key → FC} {fs : FList} {k : Key} (h : fget fs k = none) (z : DataW Unit) : (fsD con fs).atKey (.string k) z = z := by
  have h1 := fsD_find con fs k
  rw [h] at h1
  unfold DataW.atKey fsD
  simp only
  rw [h1]; rfl
theorem fsD_size (con : Key → FC) (fs : FList) : Maps.size (fsD con fs) = fs.length := by simp [fsD, Maps.size]
theorem fsD_congr {con con' : Key → FC} {fs fs' : FList} (hk : fkeys fs' = fkeys fs) (h : ∀ p ∈ fs, (con' p.1).g = (con p.1).g) : fsD con' fs' = fsD con fs := by
  unfold fsD
  have e1 : ∀ (c : Key → FC) (l : FList), l.map (fun p => ((.string p.1, .lit (.int .i64 ((c p.1).g : Int))) : Lit × DataW Unit)) = (fkeys l).map (fun q => (.string q, .lit (.int .i64 ((c q).g : Int)))) := by
    intro c l; unfold fkeys; rw [List.map_map]; rfl
  rw [e1, e1, hk]
  congr 1
  refine List.map_congr_left (fun q hq => ?_)
  obtain ⟨p, hp, rfl⟩ := List.mem_map.1 hq
  rw [h p hp]
theorem fsD_del (con : Key → FC) (fs : FList) (k : Key) : (fsD con fs).del (.string k) = fsD con (fdel fs k) := by
  show DataW.map _ = DataW.map _
  unfold fdel
  rw [List.filter_map]
  congr 1
theorem fsD_ins (con : Key → FC) (k : Key) (F : AF) : ∀ fs : FList, DataW.insert (.string k, .lit (.int .i64 ((con k).g : Int))) (fs.map (fun p => (.string p.1, .lit (.int .i64 ((con p.1).g : Int))))) = (fins (k, F) fs).map (fun p => ((.string p.1, .lit (.int .i64 ((con p.1).g : Int))) : Lit × DataW Unit))
  | [] => rfl
  | y :: r => by
    rw [List.map_cons]
    unfold DataW.insert fins
    show (if bytesBefore k y.1 then _ else _) = _
    by_cases e : bytesBefore k y.1 = true
    · rw [if_pos e, if_pos e]; rfl
    · rw [if_neg e, if_neg e, fsD_ins con k F r]; rfl
theorem fsD_put {con con' : Key → FC} {fs : FList} {k : Key} {F : AF} (h : ∀ p ∈ fs, p.1 ≠ k → (con' p.1).g = (con p.1).g) : (fsD con fs).put (.string k) (.lit (.int .i64 ((con' k).g : Int))) = fsD con' (fput fs k F) := by
  have h1 : (fsD con fs).put (.string k) (.lit (.int .i64 ((con' k).g : Int))) = .map (DataW.insert (.string k, .lit (.int .i64 ((con' k).g : Int))) (((fs.map (fun p => ((.string p.1, .lit (.int .i64 ((con p.1).g : Int))) : Lit × DataW Unit)))).filter (fun p => !p.1.sameKey (.string k)))) := rfl
  have h2 : ((fs.map (fun p => ((.string p.1, .lit (.int .i64 ((con p.1).g : Int))) : Lit × DataW Unit)))).filter (fun p => !p.1.sameKey (.string k)) = (fdel fs k).map (fun p => (.string p.1, .lit (.int .i64 ((con' p.1).g : Int)))) := by
    rw [List.filter_map]
    show List.map _ (fdel fs k) = _
    refine List.map_congr_left (fun p hp => ?_)
    have hm := List.mem_filter.1 hp
    rw [h p hm.1 (by simpa using hm.2)]
  rw [h1, h2, fsD_ins con' k F]
  rfl
structure DiskAt (w : World) (p m : Nat) (con : Key → FC) (A : AD) : Prop where
  ok : A.Ok
  cells : w.heap[p]? = some (.cells #[.int .i64 A.cap, .map (some m), .bool A.pow.off, .bool A.pow.opn, .int .i64 A.pow.arm, .int .i64 A.pow.what, .int .i64 A.pow.fall] 86 (0, 0))
  files : w.ownsMap Tryz.prog 9 ptrElem m 16 (fsD con A.fs)
  file : ∀ k F, fget A.fs k = some F → FileAt w (con k) F
  pf : ∀ k F, fget A.fs k = some F → ¬ (con k).has p ∧ ¬ (con k).has m
  apart : ∀ k F k' F', fget A.fs k = some F → fget A.fs k' = some F' → k ≠ k' → ∀ b, (con k).has b → ¬ (con k').has b
def foot (p m : Nat) (con : Key → FC) (fs : FList) (b : Nat) : Prop := b = p ∨ b = m ∨ ∃ k F, fget fs k = some F ∧ (con k).has b
section
variable {w w' : World} {p m : Nat} {con con' : Key → FC} {A : AD}
theorem DiskAt.pm (h : DiskAt w p m con A) : p ≠ m := fun e => by
  obtain ⟨es, ck, hb, _⟩ := h.files
  have := h.cells
  rw [e, hb] at this
  cases this
theorem DiskAt.lt (h : DiskAt w p m con A) : ∀ b, foot p m con A.fs b → b < w.heap.size := by
  rintro b (rfl | rfl | ⟨k, F, hk, hb⟩)
  · exact lt_of_some h.cells
  · exact h.files.lt
  · exact (h.file k F hk).lt b hb
theorem DiskAt.same (h : DiskAt w p m con A) (e : ∀ b, foot p m con A.fs b → w'.heap[b]? = w.heap[b]?) : DiskAt w' p m con A :=
  ⟨h.ok, by rw [e p (.inl rfl)]; exact h.cells, ownsMap_same h.files (e m (.inr (.inl rfl))), fun k F hk => (h.file k F hk).same (fun b hb => e b (.inr (.inr ⟨k, F, hk, hb⟩))), h.pf, h.apart⟩
theorem DiskAt.turn {S : Nat → Prop} (h : DiskAt w p m con A) (t : Turn S w w') (hn : ∀ b, foot p m con A.fs b → ¬ S b) : DiskAt w' p m con A := h.same (fun b hb => t.block b (h.lt b hb) (hn b hb))
/-- Only the struct's cells have turned. -/
theorem DiskAt.setPow (h : DiskAt w p m con A) {P : AP} (hP : P.Ok) (t : Turn (fun b => b = p) w w') (hc : w'.heap[p]? = some (.cells #[.int .i64 A.cap, .map (some m), .bool P.off, .bool P.opn, .int .i64 P.arm, .int .i64 P.what, .int .i64 P.fall] 86 (0, 0))) : DiskAt w' p m con { A with pow := P } := by
  have hm : w'.heap[m]? = w.heap[m]? := t.block m h.files.lt (fun e => h.pm e.symm)
  refine ⟨⟨h.ok.c0, h.ok.c1, h.ok.sorted, h.ok.names, h.ok.few, h.ok.files, h.ok.space, hP⟩, hc, ownsMap_same h.files hm, fun k F hk => ?_, h.pf, h.apart⟩
  exact (h.file k F hk).turn t (fun b hb e => (h.pf k F hk).1 (e ▸ hb))
def upd (con : Key → FC) (k : Key) (c : FC) : Key → FC := fun x => if x = k then c else con x
theorem upd_same (con : Key → FC) (k : Key) (c : FC) : upd con k c k = c := if_pos rfl
theorem upd_ne (con : Key → FC) {k x : Key} (c : FC) (h : x ≠ k) : upd con k c x = con x := if_neg h
/-- One file has turned. -/
theorem DiskAt.setFile (h : DiskAt w p m con A) {k : Key} {F F' : AF} {c' : FC} (hk : fget A.fs k = some F) (hf : FileAt w' c' F') (s : FStep (con k) c' w w') (hsp : ((fused A.fs : Int) + F'.seen.length - F.seen.length) ≤ A.cap) :
    DiskAt w' p m (upd con k c') { A with fs := fset A.fs k F' } ∧ ∀ b, foot p m (upd con k c') (fset A.fs k F') b → foot p m con A.fs b ∨ w.heap.size ≤ b := by
  have hfk : ∀ x G, fget (fset A.fs k F') x = some G → (x = k ∧ G = F') ∨ (x ≠ k ∧ fget A.fs x = some G) := fun x G hx => by
    by_cases e : x = k
    · subst e
      rw [fget_fset_same hk] at hx
      exact .inl ⟨rfl, by simpa using hx.symm⟩
    · rw [fget_fset_ne e] at hx
      exact .inr ⟨e, hx⟩
  have hpm := h.pf k F hk
  have ep : w'.heap[p]? = w.heap[p]? := s.turn.block p (lt_of_some h.cells) hpm.1
  have em : w'.heap[m]? = w.heap[m]? := s.turn.block m h.files.lt hpm.2
  have hap := apart_of h.ok.sorted
  refine ⟨⟨⟨h.ok.c0, h.ok.c1, fset_sorted h.ok.sorted, fun q hq => ?_, by rw [fset_length]; exact h.ok.few, fun q hq => ?_, ?_, h.ok.pow⟩, by rw [ep]; exact h.cells, ?_, fun x G hx => ?_, fun x G hx => ?_, fun x G y G' hx hy hxy b hb hb' => ?_⟩, fun b hb => ?_⟩
  · rcases fset_mem hq with rfl | hq
    · have := h.ok.names _ (fget_mem hk)
      exact this
    · exact h.ok.names q hq
  · rcases fset_mem hq with rfl | hq
    · exact hf.ok
    · exact h.ok.files q hq
  · have := fused_fset (F' := F') hap hk
    show (fused (fset A.fs k F') : Int) ≤ A.cap
    omega
  · have e : fsD (upd con k c') (fset A.fs k F') = fsD con A.fs := fsD_congr fset_keys (fun q _ => by
      by_cases e : q.1 = k
      · rw [e, upd_same]; exact s.g
      · rw [upd_ne _ _ e])
    rw [e]
    exact ownsMap_same h.files em
  · rcases hfk x G hx with ⟨rfl, rfl⟩ | ⟨e, hx⟩
    · rw [upd_same]; exact hf
    · rw [upd_ne _ _ e]
      exact (h.file x G hx).turn s.turn (fun b hb => h.apart x G k F hx hk e b hb)
  · rcases hfk x G hx with ⟨rfl, rfl⟩ | ⟨e, hx⟩
    · rw [upd_same]
      refine ⟨fun y => ?_, fun y => ?_⟩
      · rcases s.own _ y with z | z
        · exact hpm.1 z
        · have := lt_of_some h.cells; omega
      · rcases s.own _ y with z | z
        · exact hpm.2 z
        · have := h.files.lt; omega
    · rw [upd_ne _ _ e]; exact h.pf x G hx
  · rcases hfk x G hx with ⟨ex, eG⟩ | ⟨e, hx2⟩
    · rcases hfk y G' hy with ⟨e', _⟩ | ⟨e', hy2⟩
      · exact hxy (ex.trans e'.symm)
      · rw [ex, upd_same] at hb
        rw [upd_ne _ _ e'] at hb'
        rcases s.own _ hb with z | z
        · exact h.apart k F y G' hk hy2 (fun q => hxy (ex.trans q)) b z hb'
        · have := (h.file y G' hy2).lt b hb'; omega
    · rw [upd_ne _ _ e] at hb
      rcases hfk y G' hy with ⟨ey, _⟩ | ⟨e', hy2⟩
      · rw [ey, upd_same] at hb'
        rcases s.own _ hb' with z | z
        · exact h.apart x G k F hx2 hk e b hb z
        · have := (h.file x G hx2).lt b hb; omega
      · rw [upd_ne _ _ e'] at hb'
        exact h.apart x G y G' hx2 hy2 hxy b hb hb'
  · rcases hb with rfl | rfl | ⟨x, G, hx, hb⟩
    · exact .inl (.inl rfl)
    · exact .inl (.inr (.inl rfl))
    · rcases hfk x G hx with ⟨rfl, rfl⟩ | ⟨e, hx⟩
      · rw [upd_same] at hb
        rcases s.own _ hb with z | z
        · exact .inl (.inr (.inr ⟨x, F, hk, z⟩))
        · exact .inr z
      · rw [upd_ne _ _ e] at hb
        exact .inl (.inr (.inr ⟨x, G, hx, hb⟩))
theorem DiskAt.c0 (h : DiskAt w p m con A) : w.cell? ⟨p, 0, none⟩ = some (.int .i64 A.cap) := by rw [cell_of_row w p 0 _ _ (0, 0) h.cells]; rfl
theorem DiskAt.c1 (h : DiskAt w p m con A) : w.cell? ⟨p, 1, none⟩ = some (.map (some m)) := by rw [cell_of_row w p 1 _ _ (0, 0) h.cells]; rfl
theorem DiskAt.c2 (h : DiskAt w p m con A) : w.cell? ⟨p, 2, none⟩ = some (.bool A.pow.off) := by rw [cell_of_row w p 2 _ _ (0, 0) h.cells]; rfl
theorem DiskAt.c3 (h : DiskAt w p m con A) : w.cell? ⟨p, 3, none⟩ = some (.bool A.pow.opn) := by rw [cell_of_row w p 3 _ _ (0, 0) h.cells]; rfl
theorem DiskAt.c4 (h : DiskAt w p m con A) : w.cell? ⟨p, 4, none⟩ = some (.int .i64 A.pow.arm) := by rw [cell_of_row w p 4 _ _ (0, 0) h.cells]; rfl
theorem DiskAt.c5 (h : DiskAt w p m con A) : w.cell? ⟨p, 5, none⟩ = some (.int .i64 A.pow.what) := by rw [cell_of_row w p 5 _ _ (0, 0) h.cells]; rfl
theorem DiskAt.c6 (h : DiskAt w p m con A) : w.cell? ⟨p, 6, none⟩ = some (.int .i64 A.pow.fall) := by rw [cell_of_row w p 6 _ _ (0, 0) h.cells]; rfl
theorem DiskAt.fz (h : DiskAt w p m con A) (i : Nat) : w.frozen? ⟨p, i, none⟩ = false := frozen_of_row w p i _ _ h.cells
end
/-- The disk at p, with all that it owns. -/
def Disk (w : World) (p : Nat) (A : AD) (S : Nat → Prop) : Prop := ∃ m con, DiskAt w p m con A ∧ ∀ b, S b ↔ foot p m con A.fs b
structure Step (S S' : Nat → Prop) (w w' : World) : Prop where
  turn : Turn S w w'
  own : ∀ b, S' b → S b ∨ w.heap.size ≤ b
theorem Step.refl (S : Nat → Prop) (w : World) : Step S S w w := ⟨Turn.refl _ _, fun _ h => .inl h⟩
theorem Step.trans {S S1 S2 : Nat → Prop} {w w1 w2 : World} (h : Step S S1 w w1) (k : Step S1 S2 w1 w2) : Step S S2 w w2 := by
  refine ⟨h.turn.trans k.turn h.own, fun b hb => ?_⟩
  rcases k.own b hb with x | x
  · exact h.own b x
  · exact .inr (Nat.le_trans h.turn.size x)
theorem Disk.ok {w : World} {p : Nat} {A : AD} {S : Nat → Prop} (h : Disk w p A S) : A.Ok := by
  obtain ⟨m, con, h, _⟩ := h
  exact h.ok
theorem Disk.lt {w : World} {p : Nat} {A : AD} {S : Nat → Prop} (h : Disk w p A S) : ∀ b, S b → b < w.heap.size := by
  obtain ⟨m, con, h, hS⟩ := h
  exact fun b hb => h.lt b ((hS b).1 hb)
theorem Disk.turn {w w' : World} {p : Nat} {A : AD} {S T : Nat → Prop} (h : Disk w p A S) (t : Turn T w w') (hn : ∀ b, S b → ¬ T b) : Disk w' p A S := by
  obtain ⟨m, con, h, hS⟩ := h
  exact ⟨m, con, h.turn t (fun b hb => hn b ((hS b).2 hb)), hS⟩
theorem Disk.below {w w' : World} {p : Nat} {A : AD} {S : Nat → Prop} (h : Disk w p A S) (t : Below w.heap.size w w') : Disk w' p A S := h.turn (Turn.of_below t (fun _ => False)) (fun _ _ x => x)
end Go.Proofs.YtlkimfmilccanaaGreat
