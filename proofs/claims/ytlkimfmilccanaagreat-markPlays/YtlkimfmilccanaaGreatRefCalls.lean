import Derived.Test.YtlkimfmilccanaaGreatRefPutW
/-
  The document's disk: its struct; Off, Arm, Fall, refused, New.
-/
namespace Go.Proofs.YtlkimfmilccanaaGreat
open Go.RowKit Go.Maps Go.WideMaps
set_option linter.unusedVariables false
set_option linter.unusedSimpArgs false
structure RS where
  cap : Int
  ad : Option Addr
  n : Nat
  c : Nat
  arm : Int
  what : Int
  fall : Int
  off : Bool
  opn : Bool
def RS.cs (s : RS) : Array Value := #[.int .i64 s.cap, .slice s.ad s.n s.c, .int .i64 s.arm, .int .i64 s.what, .int .i64 s.fall, .bool s.off, .bool s.opn]
def RC (w : World) (r : Nat) (s : RS) : Prop := w.heap[r]? = some (.cells s.cs 111 (0, 0))
/-- What the struct says of the power. -/
structure RPow (s : RS) (P : AP) : Prop where
  arm : s.arm = P.arm
  fall : s.fall = P.fall
  off : s.off = P.off
  opn : s.opn = P.opn
  what : 0 < P.arm → s.what = P.what
structure RRel (s : RS) (xs : List RF) (A : AD) : Prop where
  n : s.n = xs.length
  cap : s.cap = A.cap
  pow : RPow s A.pow
  fs : A.fs = xs.map RF.abs
  ds : ∀ x ∈ xs, x.ds = dirtyI x.abs.2
def uses (ad : Option Addr) (xs : List RF) (b : Nat) : Prop := (xs ≠ [] ∧ ∃ o, ad = some ⟨b, o, none⟩) ∨ ∃ x ∈ xs, x.ds ≠ [] ∧ ∃ o, x.ad = some ⟨b, o, none⟩
structure RefAt (w : World) (r : Nat) (s : RS) (xs : List RF) (S : Nat → Prop) : Prop where
  cells : RC w r s
  files : Files w s.ad xs
  lt : ∀ b, S b → b < w.heap.size
  self : S r
  use : ∀ b, uses s.ad xs b → S b ∧ b ≠ r
theorem RowAt.keep {w w' : World} {ad : Option Addr} {xs : List Value} (h : RowAt w ad xs) (hs : w.heap.size ≤ w'.heap.size) (he : xs ≠ [] → ∀ b o, ad = some ⟨b, o, none⟩ → w'.heap[b]? = w.heap[b]?) : RowAt w' ad xs := by
  by_cases hx : xs = []
  · exact .inl hx
  · rcases h with h | ⟨b, o, ha, hl, hc⟩
    · exact absurd h hx
    · exact .inr ⟨b, o, ha, Nat.lt_of_lt_of_le hl hs, fun i hi => by rw [← hc i hi]; exact World.cell?_of_block (he hx b o ha)⟩
theorem cellsF_nil {xs : List RF} (h : cellsF xs ≠ []) : xs ≠ [] := fun e => h (by rw [e]; rfl)
theorem Files.keep {w w' : World} {ad : Option Addr} {xs : List RF} (h : Files w ad xs) (hs : w.heap.size ≤ w'.heap.size) (he : ∀ b, uses ad xs b → w'.heap[b]? = w.heap[b]?) : Files w' ad xs :=
  ⟨h.row.keep hs (fun hx b o ha => he b (.inl ⟨cellsF_nil hx, o, ha⟩)), fun x hx => (h.dirty x hx).keep hs (fun hd b o ha => he b (.inr ⟨x, hx, fun e => hd (by rw [e]; rfl), o, ha⟩))⟩
section
variable {w w' : World} {r : Nat} {s : RS} {xs : List RF} {S : Nat → Prop} {A : AD}
theorem lt_heap {w' : World} {b : Nat} {o : Option Obj} (h : w'.heap[b]? = o) (ho : o ≠ none) : b < w'.heap.size := by
  rcases Nat.lt_or_ge b w'.heap.size with hl | hl
  · exact hl
  · rw [Array.getElem?_eq_none hl] at h; exact absurd h.symm ho
theorem files_same (h : Files w s.ad xs) (he : ∀ b, uses s.ad xs b → w'.heap[b]? = w.heap[b]?) : Files w' s.ad xs := by
  have row : ∀ {ad : Option Addr} {l : List Value}, RowAt w ad l → (l ≠ [] → ∀ b o, ad = some ⟨b, o, none⟩ → w'.heap[b]? = w.heap[b]?) → RowAt w' ad l := by
    intro ad l hr hh
    by_cases hx : l = []
    · exact .inl hx
    · rcases hr with hr | ⟨b, o, ha, hl, hc⟩
      · exact absurd hr hx
      · have e := hh hx b o ha
        exact .inr ⟨b, o, ha, lt_heap e (by rw [Array.getElem?_eq_getElem hl]; simp), fun i hi => by rw [← hc i hi]; exact World.cell?_of_block e⟩
  exact ⟨row h.row (fun hx b o ha => he b (.inl ⟨cellsF_nil hx, o, ha⟩)), fun x hx => row (h.dirty x hx) (fun hd b o ha => he b (.inr ⟨x, hx, fun e => hd (by rw [e]; rfl), o, ha⟩))⟩
theorem RefAt.same (h : RefAt w r s xs S) (he : ∀ b, S b → w'.heap[b]? = w.heap[b]?) : RefAt w' r s xs S := by
  refine ⟨?_, files_same h.files (fun b hb => he b (h.use b hb).1), fun b hb => ?_, h.self, h.use⟩
  · unfold RC; rw [he r h.self]; exact h.cells
  · have hl := h.lt b hb
    exact lt_heap (he b hb) (by rw [Array.getElem?_eq_getElem hl]; simp)
theorem RefAt.c (h : RefAt w r s xs S) (j : Nat) : w.cell? ⟨r, j, none⟩ = s.cs[j]? := cell_of_row w r j _ _ (0, 0) h.cells
theorem RefAt.fz (h : RefAt w r s xs S) (j : Nat) : w.frozen? ⟨r, j, none⟩ = false := frozen_of_row w r j _ _ h.cells
/-- A field is turned (not the list). -/
theorem RefAt.field (h : RefAt w r s xs S) (j : Nat) (v : Value) (s' : RS) (hs : s.cs.setIfInBounds j v = s'.cs) (ha : s'.ad = s.ad) : RefAt (w.setCell ⟨r, j, none⟩ v) r s' xs S ∧ Turn (fun b => b = r) w (w.setCell ⟨r, j, none⟩ v) := by
  have ht := Turn.setCell w ⟨r, j, none⟩ v
  refine ⟨⟨?_, ?_, fun b hb => Nat.lt_of_lt_of_le (h.lt b hb) ht.size, h.self, by rw [ha]; exact h.use⟩, ht⟩
  · unfold RC; rw [heap_setCell_same w r j _ _ _ h.cells, hs]
  · rw [ha]
    exact files_same h.files (fun b hb => ht.block b (h.lt b (h.use b hb).1) (h.use b hb).2)
/-- Another list. -/
theorem RefAt.list (h : RefAt w r s xs S) (w1 : World) (hb : Below w.heap.size w w1) {v : Value} {ys : List RF} (ho : w1.ownsRow w.heap.size 147 4 v ys.length (cellsF ys)) (hd : ∀ y ∈ ys, RowAt w1 y.ad (y.ds.map (Value.int .i64)))
    (hu : ∀ y ∈ ys, y.ds ≠ [] → ∀ b o, y.ad = some ⟨b, o, none⟩ → (S b ∧ b ≠ r) ∨ w.heap.size ≤ b) :
    ∃ ad c S', v = .slice ad ys.length c ∧ RefAt (w1.setCell ⟨r, 1, none⟩ v) r { s with ad := ad, n := ys.length, c := c } ys S' ∧ Step S S' w (w1.setCell ⟨r, 1, none⟩ v) := by
  obtain ⟨ad, c, rfl, hrow, _, hbase⟩ := own_at ho
  have hr := h.lt r h.self
  have ht := Turn.setCell w1 ⟨r, 1, none⟩ (.slice ad ys.length c)
  have hT : Turn S w (w1.setCell ⟨r, 1, none⟩ (.slice ad ys.length c)) := (Turn.of_below hb S).trans ht (fun b hb => .inl (by rw [hb]; exact h.self))
  have hdl : ∀ b, uses ad ys b → b < w1.heap.size := by
    rintro b (⟨hne, o, ha⟩ | ⟨y, hy, hds, o, ha⟩)
    · rcases hrow with h0 | ⟨b', o', ha', hl', _⟩
      · have := cellsF_length ys
        rw [h0] at this
        have h1 : ys.length ≠ 0 := fun e => hne (List.length_eq_zero_iff.1 e)
        simp at this
        omega
      · rw [ha] at ha'; cases ha'; exact hl'
    · rcases hd y hy with h0 | ⟨b', o', ha', hl', _⟩
      · exact absurd (List.map_eq_nil_iff.1 h0) hds
      · rw [ha] at ha'; cases ha'; exact hl'
  have hne : ∀ b, uses ad ys b → b ≠ r := by
    rintro b (⟨hne, o, ha⟩ | ⟨y, hy, hds, o, ha⟩)
    · have := hbase b o ha; omega
    · rcases hu y hy hds b o ha with ⟨_, h2⟩ | h2
      · exact h2
      · omega
  refine ⟨ad, c, fun b => b = r ∨ uses ad ys b, rfl, ⟨?_, ?_, ?_, .inl rfl, fun b hb => ⟨.inr hb, hne b hb⟩⟩, hT, ?_⟩
  · have hc1 : w1.heap[r]? = some (.cells s.cs 111 (0, 0)) := by rw [hb.block r hr]; exact h.cells
    unfold RC; rw [heap_setCell_same w1 r 1 _ _ _ hc1]; rfl
  · have hf : Files w1 ad ys := ⟨hrow, hd⟩
    exact files_same (s := { s with ad := ad }) hf (fun b hb => ht.block b (hdl b hb) (hne b hb))
  · rintro b (rfl | hb)
    · exact Nat.lt_of_lt_of_le hr hT.size
    · exact Nat.lt_of_lt_of_le (hdl b hb) ht.size
  · rintro b (rfl | hb)
    · exact .inl h.self
    · rcases hb with ⟨hne, o, ha⟩ | ⟨y, hy, hds, o, ha⟩
      · exact .inr (hbase b o ha)
      · rcases hu y hy hds b o ha with ⟨h2, _⟩ | h2
        · exact .inl h2
        · exact .inr h2
end
/-- The document's disk among the items. -/
def Item.ref (r : Nat) (A : AD) : Item := ⟨fun w S => ∃ s xs, RefAt w r s xs S ∧ RRel s xs A, fun w S ⟨s, xs, h, _⟩ => h.lt, fun w w' S ⟨s, xs, h, k⟩ e => ⟨s, xs, h.same e, k⟩⟩
section
variable {B : Nat} {w : World} {L : List Item} {i r : Nat} {A A' : AD} {f : Nat} {args : Array Value} {R : Ending → Prop}
theorem Lies.rcall (h : Lies B w L) (hi : L[i]? = some (.ref r A)) (hc : ∀ s xs S, RefAt w r s xs S → RRel s xs A → (∀ b, S b → B ≤ b) → Calls Tryz.prog f args w fun e w' => R e ∧ ∃ s' xs' S', RefAt w' r s' xs' S' ∧ RRel s' xs' A' ∧ Step S S' w w') :
    Calls Tryz.prog f args w fun e w' => R e ∧ Lies B w' (L.set i (.ref r A')) ∧ Below B w w' := by
  obtain ⟨S, ⟨s, xs, hr, hrel⟩, hB, _, hk⟩ := h.upd hi
  refine (hc s xs S hr hrel hB).mono ?_
  rintro e w' ⟨he, s', xs', S', hr', hrel', hs⟩
  exact ⟨he, hk w' _ S' ⟨s', xs', hr', hrel'⟩ hs⟩
theorem Lies.rask (h : Lies B w L) (hi : L[i]? = some (.ref r A)) (hc : ∀ s xs S, RefAt w r s xs S → RRel s xs A → Calls Tryz.prog f args w fun e w' => R e ∧ Below w.heap.size w w') :
    Calls Tryz.prog f args w fun e w' => R e ∧ Lies B w' L ∧ Below B w w' := by
  obtain ⟨S, ⟨s, xs, hr, hrel⟩, hB⟩ := h.get hi
  refine (hc s xs S hr hrel).mono ?_
  rintro e w' ⟨he, hb⟩
  exact ⟨he, h.below hb, hb.mono h.base⟩
theorem Lies.rtold {e : TypeId} {xs : List Value} (h : Lies B w L) (hi : L[i]? = some (.ref r A)) (hc : ∀ s ys S, RefAt w r s ys S → RRel s ys A → Calls Tryz.prog f args w fun en w' => ∃ v, en = .returned v ∧ w'.ownsRow w.heap.size e 1 v xs.length xs ∧ Below w.heap.size w w') :
    Calls Tryz.prog f args w fun en w' => ∃ v, en = .returned v ∧ w'.ownsRow 0 e 1 v xs.length xs ∧ Lies B w' (L ++ [.row e v xs]) ∧ Below B w w' := by
  obtain ⟨S, ⟨s, ys, hr, hrel⟩, hB⟩ := h.get hi
  refine (hc s ys S hr hrel).mono ?_
  rintro en w' ⟨v, rfl, ho, hb⟩
  have h0 : w'.ownsRow 0 e 1 v xs.length xs := ⟨ho.1, by
    rcases ho.2 with h | ⟨g, c, cur, h1, h2, rest⟩
    · exact .inl h
    · exact .inr ⟨g, c, cur, h1, Nat.zero_le _, rest⟩⟩
  exact ⟨v, rfl, h0, h.push (it := .row e v xs) (S' := fun b => v.ownBlock = some b) hb ⟨h0, fun _ => Iff.rfl⟩ (fun b hb' => (World.ownsRow.lt ho b hb').1), hb.mono h.base⟩
end
end Go.Proofs.YtlkimfmilccanaaGreat
/-
  The document's disk: Off, Arm, Fall, refused, find, Name, in, Used, Size.
-/
namespace Go.Proofs.YtlkimfmilccanaaGreat
open Go.RowKit Go.Maps Go.WideMaps
set_option linter.unusedVariables false
set_option linter.unusedSimpArgs false
section
variable {w : World} {r : Nat} {s : RS} {xs : List RF} {S : Nat → Prop} {A : AD}
theorem rOff_any (h : RefAt w r s xs S) : Calls Tryz.prog 63 #[.pointer (some ⟨r, 0, none⟩)] w fun e w' => e = .returned (.bool s.off) ∧ w' = w := by
  have c5 : w.cell? ⟨r, 5, none⟩ = some (.bool s.off) := h.c 5
  clear h
  go_enter Tryz.func63, Tryz.ntmps63
  go_wp2
  go_ret
  exact ⟨rfl, rfl⟩
theorem rFall_any (h : RefAt w r s xs S) (hr : RRel s xs A) (n : Int) : Calls Tryz.prog 55 #[.pointer (some ⟨r, 0, none⟩), .int .i64 n] w fun e w' => e = .returned (.tuple #[]) ∧ ∃ s', RefAt w' r s' xs S ∧ RRel s' xs (A.fallen n) ∧ Turn (fun b => b = r) w w' := by
  have HH := hide h
  have HR := hide hr
  have f4 := h.fz 4
  have c4 : w.cell? ⟨r, 4, none⟩ = some (.int .i64 s.fall) := h.c 4
  obtain ⟨m, hm⟩ : ∃ m, max 0 n = m := ⟨_, rfl⟩
  have hm2 : max n 0 = m := by omega
  have HM := hide hm2
  clear h hr hm2
  go_enter Tryz.func55, Tryz.ntmps55
  go_wp2
  go_end0
  obtain ⟨h1, t1⟩ := HH.out.field 4 (.int .i64 m) { s with fall := m } rfl rfl
  exact ⟨rfl, _, h1, ⟨HR.out.n, HR.out.cap, ⟨HR.out.pow.arm, by show m = max n 0; rw [HM.out], HR.out.pow.off, HR.out.pow.opn, HR.out.pow.what⟩, HR.out.fs, HR.out.ds⟩, t1⟩
set_option maxRecDepth 5000 in
theorem rArm_any (h : RefAt w r s xs S) (hr : RRel s xs A) (n x : Int) : Calls Tryz.prog 54 #[.pointer (some ⟨r, 0, none⟩), .int .i64 n, .int .i64 x] w fun e w' => e = .returned (.tuple #[]) ∧ ∃ s', RefAt w' r s' xs S ∧ RRel s' xs (A.armed n x) ∧ Turn (fun b => b = r) w w' := by
  obtain ⟨h1, t1⟩ := h.field 2 (.int .i64 0) { s with arm := 0 } rfl rfl
  have HR := hide hr
  have f2 := h.fz 2
  have f3 := h.fz 3
  have c2 : w.cell? ⟨r, 2, none⟩ = some (.int .i64 s.arm) := h.c 2
  have c3 : w.cell? ⟨r, 3, none⟩ = some (.int .i64 s.what) := h.c 3
  by_cases hb : n < 1 ∨ x < 0 ∨ x > 2
  · have he : A.armed n x = { A with pow := { A.pow with arm := 0, what := 0 } } := by unfold AD.armed; rw [if_pos hb]
    rw [he]
    have H1 := hide h1
    have T1 := hide t1
    have HE : Hid (∃ s', RefAt (w.setCell ⟨r, 2, none⟩ (.int .i64 0)) r s' xs S ∧ RRel s' xs { A with pow := { A.pow with arm := 0, what := 0 } } ∧ Turn (fun b => b = r) w (w.setCell ⟨r, 2, none⟩ (.int .i64 0))) :=
      ⟨_, h1, ⟨HR.out.n, HR.out.cap, ⟨rfl, HR.out.pow.fall, HR.out.pow.off, HR.out.pow.opn, fun hx => absurd hx (by show ¬ (0 : Int) < 0; omega)⟩, HR.out.fs, HR.out.ds⟩, t1⟩
    clear h hr he h1 t1
    by_cases hn : n < 1
    · have dn : ¬ (1 : Int) ≤ n := by omega
      have dn2 : decide ((1 : Int) ≤ n) = false := decide_eq_false dn
      clear hb hn
      go_enter Tryz.func54, Tryz.ntmps54
      go_wp2
      go_end0
      exact ⟨rfl, HE.out⟩
    · have dn : (1 : Int) ≤ n := by omega
      have dn2 : decide ((1 : Int) ≤ n) = true := decide_eq_true dn
      have d0 : (x == 0) = false := beq_eq_false_iff_ne.2 (by omega)
      have d1 : (x == 1) = false := beq_eq_false_iff_ne.2 (by omega)
      have d2 : (x == 2) = false := beq_eq_false_iff_ne.2 (by omega)
      clear hb hn
      go_enter Tryz.func54, Tryz.ntmps54
      go_wp2
      go_end0
      exact ⟨rfl, HE.out⟩
  · have he : A.armed n x = { A with pow := { A.pow with arm := n, what := x } } := by unfold AD.armed; rw [if_neg hb]
    rw [he]
    obtain ⟨h2, t2⟩ := h1.field 2 (.int .i64 n) { s with arm := n } rfl rfl
    obtain ⟨h3, t3⟩ := h2.field 3 (.int .i64 x) { s with arm := n, what := x } rfl rfl
    have HE : Hid (∃ s', RefAt (((w.setCell ⟨r, 2, none⟩ (.int .i64 0)).setCell ⟨r, 2, none⟩ (.int .i64 n)).setCell ⟨r, 3, none⟩ (.int .i64 x)) r s' xs S ∧ RRel s' xs { A with pow := { A.pow with arm := n, what := x } } ∧ Turn (fun b => b = r) w (((w.setCell ⟨r, 2, none⟩ (.int .i64 0)).setCell ⟨r, 2, none⟩ (.int .i64 n)).setCell ⟨r, 3, none⟩ (.int .i64 x))) :=
      ⟨_, h3, ⟨HR.out.n, HR.out.cap, ⟨rfl, HR.out.pow.fall, HR.out.pow.off, HR.out.pow.opn, fun _ => rfl⟩, HR.out.fs, HR.out.ds⟩, (t1.trans t2 (fun _ hb => .inl hb)).trans t3 (fun _ hb => .inl hb)⟩
    have dn : (1 : Int) ≤ n := by omega
    have dn2 : decide ((1 : Int) ≤ n) = true := decide_eq_true dn
    have hx : x = 0 ∨ x = 1 ∨ x = 2 := by omega
    clear h hr he h1 t1 h2 t2 h3 t3 hb
    have fin : ∀ e w', e = Ending.returned (.tuple #[]) → w' = (((w.setCell ⟨r, 2, none⟩ (.int .i64 0)).setCell ⟨r, 2, none⟩ (.int .i64 n)).setCell ⟨r, 3, none⟩ (.int .i64 x)) → e = Ending.returned (.tuple #[]) ∧ ∃ s', RefAt w' r s' xs S ∧ RRel s' xs { A with pow := { A.pow with arm := n, what := x } } ∧ Turn (fun b => b = r) w w' := fun e w' h1 h2 => ⟨h1, by rw [h2]; exact HE.out⟩
    have FIN := hide fin
    clear fin
    rcases hx with rfl | rfl | rfl
    all_goals
      go_enter Tryz.func54, Tryz.ntmps54
      go_wp2
      go_end0
      first | exact ⟨rfl, HE.out⟩ | exact FIN.out _ _ rfl rfl | exact FIN.out _ _ rfl (by simp)
def findI (xs : List RF) (k : Key) : Int := match xs.findIdx? (fun x => x.name.data.toList == k) with
  | some i => (i : Int)
  | none => -1
theorem findI_at {xs : List RF} {k : Key} {i : Nat} (hi : i < xs.length) (hn : ∀ j (h : j < xs.length), j < i → (xs[j].name.data.toList == k) = false) (he : (xs[i].name.data.toList == k) = true) : findI xs k = (i : Int) := by
  have : xs.findIdx? (fun x => x.name.data.toList == k) = some i := by
    rw [List.findIdx?_eq_some_iff_getElem]
    exact ⟨hi, he, fun j hj => by rw [hn j (by omega) hj]; simp⟩
  unfold findI
  rw [this]
theorem findI_none {xs : List RF} {k : Key} (hn : ∀ j (h : j < xs.length), (xs[j].name.data.toList == k) = false) : findI xs k = -1 := by
  have : xs.findIdx? (fun x => x.name.data.toList == k) = none := by
    rw [List.findIdx?_eq_none_iff]
    intro x hx
    obtain ⟨j, hj, rfl⟩ := List.getElem_of_mem hx
    exact hn j hj
  unfold findI
  rw [this]
theorem find_some : ∀ {xs : List RF} {k : Key} {F : AF}, fget (xs.map RF.abs) k = some F → ∃ i, ∃ h : i < xs.length, findI xs k = (i : Int) ∧ xs[i].abs = (k, F)
  | [], k, F, h => by simp [fget] at h
  | x :: r, k, F, h => by
    rw [List.map_cons, fget_cons] at h
    by_cases e : x.abs.1 = k
    · rw [if_pos e] at h
      refine ⟨0, by simp, findI_at (by simp) (fun j _ hj => by omega) (by show (x.name.data.toList == k) = true; rw [show x.name.data.toList = k from e]; simp), ?_⟩
      show x.abs = (k, F)
      cases h
      rw [← e]
    · rw [if_neg e] at h
      obtain ⟨i, hi, h1, h2⟩ := find_some h
      refine ⟨i + 1, by simp; omega, ?_, by simpa using h2⟩
      unfold findI at h1 ⊢
      rw [List.findIdx?_cons]
      have : (x.name.data.toList == k) = false := by rw [beq_eq_false_iff_ne]; exact e
      simp only [this, Bool.false_eq_true, if_false]
      cases hq : r.findIdx? (fun x => x.name.data.toList == k) with
      | none => rw [hq] at h1; simp at h1
      | some j => rw [hq] at h1; simp at h1 ⊢; omega
theorem find_none {xs : List RF} {k : Key} (h : fget (xs.map RF.abs) k = none) : findI xs k = -1 := by
  rw [fget_none_iff] at h
  refine findI_none (fun j hj => ?_)
  rw [beq_eq_false_iff_ne]
  exact h _ (List.mem_map.2 ⟨xs[j], List.getElem_mem hj, rfl⟩)
set_option maxRecDepth 5000 in
theorem rFind_any (h : RefAt w r s xs S) (hn : s.n = xs.length) (hl : xs.length ≤ 100) (t : ByteArray) : Calls Tryz.prog 91 #[.pointer (some ⟨r, 0, none⟩), .string t] w fun e w' => e = .returned (.int .i64 (findI xs t.data.toList)) ∧ w' = w := by
  have c1 : w.cell? ⟨r, 1, none⟩ = some (.slice s.ad xs.length s.c) := by rw [← hn]; exact h.c 1
  obtain ⟨ad, had⟩ : ∃ ad, s.ad = ad := ⟨_, rfl⟩
  have HF := hide h.files
  rw [had] at c1 HF
  clear h hn had
  go_enter Tryz.func91, Tryz.ntmps91
  go_wp2
  go_loopw [5] (fun i wr => ∃ k : Nat, k ≤ xs.length ∧ i = .int .i64 (k : Int) ∧ (∀ j (h : j < xs.length), j < k → (xs[j].name.data.toList == t.data.toList) = false) ∧ wr = w) (fun i _ => xs.length - (intOf i).toNat)
  case atStart => exact ⟨0, by omega, rfl, fun j _ hj => by omega, rfl⟩
  case round =>
    obtain ⟨k, hk, rfl, hno, rfl⟩ := hrel
    have HN := hide hno
    clear hno
    by_cases hlt : k < xs.length
    · have dk : decide ((k : Int) < (xs.length : Int)) = true := decide_eq_true (by omega)
      have hk0 : (0 : Int) ≤ (k : Int) := by omega
      have hk1 : (k : Int) < (xs.length : Int) := by omega
      obtain ⟨b, o, rfl, hbl, hcs⟩ := HF.out.cells hlt
      obtain ⟨x, hx⟩ : ∃ x, xs[k] = x := ⟨_, rfl⟩
      rw [hx] at hcs
      have f0 : wr.cell? ⟨b, o + k * 4, none⟩ = some (.string x.name) := hcs 0 (by omega)
      cases hq : (x.name.data.toList == t.data.toList) with
      | true =>
        have hb1 : (x.name.toList == t.toList) = true := by rw [toList_beq]; exact hq
        have HC := hide (findI_at hlt HN.out (by rw [hx]; exact hq))
        clear hcs hx hq
        go_wp2
        go_ret
        exact ⟨by rw [HC.out]; rfl, rfl⟩
      | false =>
        have hb1 : (x.name.toList == t.toList) = false := by rw [toList_beq]; exact hq
        have HC : Hid (∀ j (h : j < xs.length), j < k + 1 → (xs[j].name.data.toList == t.data.toList) = false) := fun j hj hjk => by
          by_cases e : j = k
          · subst e; rw [hx]; exact hq
          · exact HN.out j hj (by omega)
        clear hcs hx hq
        go_wp2
        go_roundw
        case rel => exact ⟨k + 1, by omega, by go_num, HC.out, by first | rfl | trivial⟩
        case measure => simp [intOf]; omega
    · have hkl : k = xs.length := by omega
      subst hkl
      have dk : decide ((xs.length : Int) < (xs.length : Int)) = false := decide_eq_false (by omega)
      have HC := hide (findI_none (k := t.data.toList) (fun j hj => HN.out j hj hj))
      go_wp2
      go_ret
      exact ⟨by rw [HC.out]; rfl, rfl⟩
theorem fused_take (xs : List RF) (k : Nat) (h : k < xs.length) : fused ((xs.take (k + 1)).map RF.abs) = fused ((xs.take k).map RF.abs) + xs[k].seen.size := by
  rw [take_snoc xs k h, List.map_append]
  unfold fused
  rw [List.map_append, List.sum_append]
  have e : (List.map (fun p : Key × AF => p.2.seen.length) (List.map RF.abs [xs[k]])).sum = xs[k].seen.size := by
    show xs[k].seen.data.toList.length + 0 = _
    rw [str_len]
    rfl
  rw [e]
theorem fused_take_le (xs : List RF) (k : Nat) : fused ((xs.take k).map RF.abs) ≤ fused (xs.map RF.abs) := by
  conv => rhs; rw [← List.take_append_drop k xs]
  rw [List.map_append]
  unfold fused
  rw [List.map_append, List.sum_append]
  omega
set_option maxRecDepth 5000 in
theorem rUsed_any (h : RefAt w r s xs S) (hr : RRel s xs A) (hok : A.Ok) : Calls Tryz.prog 93 #[.pointer (some ⟨r, 0, none⟩)] w fun e w' => e = .returned (.int .i64 (fused A.fs : Int)) ∧ w' = w := by
  have c1 : w.cell? ⟨r, 1, none⟩ = some (.slice s.ad xs.length s.c) := by rw [← hr.n]; exact h.c 1
  obtain ⟨ad, had⟩ : ∃ ad, s.ad = ad := ⟨_, rfl⟩
  have HF := hide h.files
  have hl : xs.length ≤ 16 := by have := hok.few; rw [hr.fs, List.length_map] at this; exact this
  have HT : Hid (fused (xs.map RF.abs) ≤ 16777216) := by
    have h1 := hok.space
    have h2 := hok.c1
    rw [hr.fs] at h1
    show _ ≤ _
    omega
  rw [had] at c1 HF
  rw [hr.fs]
  clear h hr had hok
  go_enter Tryz.func93, Tryz.ntmps93
  go_wp2
  go_loopw [3, 4] (fun y i wr => ∃ k : Nat, k ≤ xs.length ∧ i = .int .i64 (k : Int) ∧ y = .int .i64 (fused ((xs.take k).map RF.abs) : Int) ∧ wr = w) (fun _ i _ => xs.length - (intOf i).toNat)
  case atStart => exact ⟨0, by omega, rfl, rfl, rfl⟩
  case round =>
    obtain ⟨k, hk, rfl, rfl, rfl⟩ := hrel
    by_cases hlt : k < xs.length
    · have dk : decide ((k : Int) < (xs.length : Int)) = true := decide_eq_true (by omega)
      have hk0 : (0 : Int) ≤ (k : Int) := by omega
      have hk1 : (k : Int) < (xs.length : Int) := by omega
      obtain ⟨b, o, rfl, hbl, hcs⟩ := HF.out.cells hlt
      have hsum := fused_take xs k hlt
      have hle := Nat.le_trans (fused_take_le xs (k + 1)) HT.out
      obtain ⟨x, hx⟩ : ∃ x, xs[k] = x := ⟨_, rfl⟩
      rw [hx] at hcs hsum
      have f1 : wr.cell? ⟨b, o + k * 4 + 1, none⟩ = some (.string x.seen) := hcs 1 (by omega)
      obtain ⟨a, ha⟩ : ∃ a, fused ((xs.take k).map RF.abs) = a := ⟨_, rfl⟩
      obtain ⟨c, hc⟩ : ∃ c, x.seen.size = c := ⟨_, rfl⟩
      rw [hsum, ha, hc] at hle
      rw [ha, hc] at hsum
      have HS := hide hsum
      rw [ha]
      clear hcs hx hsum ha
      go_wp2
      go_roundw
      case rel => exact ⟨k + 1, by omega, by go_num, by rw [HS.out]; go_num, by first | rfl | trivial⟩
      case measure => simp [intOf]; omega
    · have hkl : k = xs.length := by omega
      subst hkl
      have dk : decide ((xs.length : Int) < (xs.length : Int)) = false := decide_eq_false (by omega)
      rw [List.take_length]
      go_wp2
      go_ret
      exact ⟨rfl, rfl⟩
set_option maxRecDepth 5000 in
theorem rSize_any (h : RefAt w r s xs S) (hr : RRel s xs A) (hok : A.Ok) (t : ByteArray) : Calls Tryz.prog 85 #[.pointer (some ⟨r, 0, none⟩), .string t] w fun e w' => e = .returned (.tuple #[.int .i64 (A.size t.data.toList).1, .int .i64 (A.size t.data.toList).2]) ∧ w' = w := by
  have c1 : w.cell? ⟨r, 1, none⟩ = some (.slice s.ad xs.length s.c) := by rw [← hr.n]; exact h.c 1
  have c5 : w.cell? ⟨r, 5, none⟩ = some (.bool A.pow.off) := by rw [← hr.pow.off]; exact h.c 5
  have hl : xs.length ≤ 16 := by have := hok.few; rw [hr.fs, List.length_map] at this; exact this
  have hfind := rFind_any h hr.n (by omega) t
  obtain ⟨ad, had⟩ : ∃ ad, s.ad = ad := ⟨_, rfl⟩
  have HF := hide h.files
  rw [had] at c1 HF
  have HFS := hide hr.fs
  clear h hr had hok
  unfold AD.size
  cases hoff : A.pow.off with
  | true =>
    rw [hoff] at c5
    rw [if_pos rfl]
    clear hfind hoff
    go_enter Tryz.func85, Tryz.ntmps85
    go_wp2
    go_ret2
    exact ⟨rfl, rfl⟩
  | false =>
    rw [hoff] at c5
    rw [if_neg (by simp)]
    cases hg : fget A.fs t.data.toList with
    | none =>
      rw [HFS.out] at hg
      rw [find_none hg] at hfind
      clear hg hoff
      go_enter Tryz.func85, Tryz.ntmps85
      go_wp2_with fail
      refine hfind.mono ?_
      rintro e w1 ⟨rfl, rfl⟩
      clear hfind
      go_wp2
      go_ret2
      exact ⟨rfl, rfl⟩
    | some F =>
      rw [HFS.out] at hg
      obtain ⟨i, hi, hfi, hab⟩ := find_some hg
      rw [hfi] at hfind
      obtain ⟨b, o, rfl, hbl, hcs⟩ := HF.out.cells hi
      obtain ⟨x, hx⟩ : ∃ x, xs[i] = x := ⟨_, rfl⟩
      rw [hx] at hcs hab
      have f1 : w.cell? ⟨b, o + i * 4 + 1, none⟩ = some (.string x.seen) := hcs 1 (by omega)
      have HL : Hid (F.seen.length = x.seen.size) := by show _ = _; rw [← str_len]; exact congrArg (fun p => List.length (AF.seen p.2)) hab.symm
      have hk0 : (0 : Int) ≤ (i : Int) := by omega
      have hk1 : (i : Int) < (xs.length : Int) := by omega
      have dk : decide ((i : Int) < 0) = false := decide_eq_false (by omega)
      clear hg hoff hcs hab hx hfi
      go_enter Tryz.func85, Tryz.ntmps85
      go_wp2_with fail
      refine hfind.mono ?_
      rintro e w1 ⟨rfl, rfl⟩
      clear hfind
      go_wp2
      go_ret2
      exact ⟨by rw [HL.out]; rfl, rfl⟩
end
end Go.Proofs.YtlkimfmilccanaaGreat
