/-
  read: the payloads of all frames (printed by gen_read.py).
-/
import Derived.Test.YtdffmmiegpndkaaGreatDoorWNum
import Derived.Test.YtdffmmiegpndkaaGreatDoorWNames
import Derived.Test.YtdffmmiegpndkaaGreatDoorWNames
import Derived.WalkMore
namespace Go.Proofs.YtdffmmiegpndkaaGreatDoor
open Go.RowKit Go.Maps
set_option linter.unusedVariables false
attribute [local go_sem] Oper.semAt_some
def rdOut (N : Nat) (r : Nat × RSt) : List Key × Bool × Int := if r.2.torn = true ∧ r.1 < N then ([], false, 60) else (r.2.pay, r.2.torn, 0)
/-- What the iterator reads, where the segments' sizes have turned. -/
theorem view_of' {w : World} {l p : Nat} {g : AL} {ad : Option Addr} {n cap b off bx : Nat} {r : Option Nat} {nums : Nat → Int} (hat : LogAt w l p g (.slice ad n cap) r) (hn : n = g.segs.length) (hnum : ∀ k, (g.segs.getD k ⟨0, 0, 0⟩).num = nums k) (had : 0 < n → ad = some ⟨b, off, none⟩) (hb : w.cell? ⟨bx, 0, none⟩ = some (.pointer (some ⟨l, 0, none⟩))) : View bx l ad b off n cap nums w := by
  subst hn
  have h := view_of hat had hb
  exact ⟨h.box, h.c3, fun k hk => by obtain ⟨z, f, h1, h2⟩ := h.seg k hk; exact ⟨z, f, by rw [← hnum k]; exact h1, h2⟩⟩
/-- append(v, x...) of two lists of texts. -/
theorem app_texts {B : Nat} {W : World} {L : List Item} {q r : Nat} {v x : Value} {xs ys : List Key} (h : Lies B W L) (hq : L[q]? = some (.row 9 v (xs.map encStr))) (hr : L[r]? = some (.row 9 x (ys.map encStr))) (hlen : xs.length + ys.length ≤ 1000000000) (ty : TypeId) :
    ∃ ad n cap W2, (Builtin.append_ #[30, 30] ty #[v, x]).run Tryz.prog W = .ok (.slice ad n cap) W2 ∧ n = (xs ++ ys).length ∧ Lies B W2 (L.set q (.row 9 (.slice ad n cap) ((xs ++ ys).map encStr))) ∧ Below B W W2 := by
  have hsrc := src_row (tx := 30) Tryz.underlying30 (h.rowOf hr) (by
    intro u hu
    obtain ⟨k, _, rfl⟩ := List.mem_map.1 hu
    rfl)
  obtain ⟨v', W2, hrun, hown, hmv⟩ := run_append_rows (t := 30) (e := 9) (z := .string ⟨#[]⟩) (by_ := 16) Tryz.underlying30 infoStr rfl (by decide) W ty 30 v (xs.map encStr) (ys.map encStr) (h.rowOf hq) _ hsrc (by simp; omega)
  obtain ⟨ad, cap, hv, _⟩ := row_at hown
  subst hv
  obtain ⟨h2, hb2⟩ := h.moved hq hown hmv
  have e : (xs.map encStr ++ ys.map encStr).length = (xs ++ ys).length := by simp
  rw [e] at hrun h2
  rw [← List.map_append] at h2
  exact ⟨ad, _, cap, W2, hrun, rfl, h2, hb2⟩
theorem own_base' {w : World} {B e n : Nat} {v : Value} {xs : List Value} (h : w.ownsRow B e 1 v n xs) : w.ownsRow 0 e 1 v xs.length xs := by
  have hl : xs.length = n := by have := h.1; omega
  rw [hl]
  refine ⟨h.1, ?_⟩
  rcases h.2 with x | ⟨g, cap, cur, hv, _, rest⟩
  · exact .inl x
  · exact .inr ⟨g, cap, cur, hv, Nat.zero_le _, rest⟩
theorem seg_cells {w : World} {l p b off n cap : Nat} {g : AL} {r : Option Nat} (hat : LogAt w l p g (.slice (some ⟨b, off, none⟩) n cap) r) (k : Nat) (hk : k < g.segs.length) : ∃ z f, w.cell? ⟨b, off + k * 3 + 1, none⟩ = some (.int .i64 z) ∧ w.frozen? ⟨b, off + k * 3 + 1, none⟩ = false ∧ w.cell? ⟨b, off + k * 3 + 2, none⟩ = some (.int .i64 f) ∧ w.frozen? ⟨b, off + k * 3 + 2, none⟩ = false := by
  obtain ⟨ad, cp, hv, hle, hrow⟩ := hat.row
  cases hv
  rcases hrow with ⟨h1, _⟩ | ⟨b', off', h1, hr, hbl, hcs, hsm, hfz⟩
  · cases h1
  cases h1
  have e : ∀ c, c < 3 → w.cell? ⟨b, off + k * 3 + c, none⟩ = (g.segs[k]).cs[c]? := fun c hc => by
    rw [show off + k * 3 + c = off + (3 * k + c) by omega, hcs (3 * k + c) (by omega), cellsG_get _ _ hk _ hc]
  exact ⟨_, _, e 1 (by omega), hfz _, e 2 (by omega), hfz _⟩
theorem get_z2 {α : Type} {L Z : List α} {a b m : α} (hZ : [a, b] ++ [m] = Z) : (L ++ Z)[L.length + 2]? = some m := by rw [get_tail, ← hZ]; rfl
theorem set3a {α : Type} {L X Z : List α} {j : Nat} {y : α} (h : j < L.length) : ((L ++ X) ++ Z).set j y = (L.set j y ++ X) ++ Z := by rw [hset_app _ (by rw [List.length_append]; omega), hset_app _ h]
theorem set3b {α : Type} {L X Z : List α} {q : Nat} {y : α} (h : q < X.length) : ((L ++ X) ++ Z).set (L.length + q) y = (L ++ X.set q y) ++ Z := by rw [hset_app _ (by rw [List.length_append]; omega), List.set_append_right _ _ (by omega), Nat.add_sub_cancel_left]
theorem get3b {α : Type} {L X Z : List α} {q : Nat} {y : α} (h : X[q]? = some y) : ((L ++ X) ++ Z)[L.length + q]? = some y := get_head (by rw [get_tail]; exact h)
section
variable {B : Nat} {w : World} {L : List Item} {i j l p : Nat} {A : AD} {g : AL}
set_option maxRecDepth 100000 in
set_option maxHeartbeats 40000000 in
theorem read_any' (h : Lies B w L) (hi : L[i]? = some (.disk p A)) (hj : L[j]? = some (.log l p g)) (hij : i ≠ j) (hg : g.Ok) (he : Env B w) (hN : g.segs.length ≤ 16) (hnx : g.next = 0) (hrd : ∀ k, k < g.segs.length → (A.read (g.fileAt k).data.toList 0 1048576).2 = 0) (R : Nat × RSt) (hR : rdFin A g.name.data.toList ⟨[], 0, g.segs, false⟩ g.segs.length 0 = R) :
    Calls Tryz.prog 34 #[.pointer (some ⟨l, 0, none⟩)] w fun e w' => ∃ v, e = .returned (.tuple #[v, .bool (rdOut g.segs.length R).2.1, .int .i64 (rdOut g.segs.length R).2.2]) ∧ Lies B w' (L.set j (.log l p { g with segs := R.2.segs, next := R.2.next }) ++ [.row 9 v ((rdOut g.segs.length R).1.map encStr)]) ∧ Below B w w' := by
  obtain ⟨v0, hp⟩ := h.pin hj
  obtain ⟨M, hM⟩ : ∃ M, L.set j (.logv l p g v0) = M := ⟨_, rfl⟩
  rw [hM] at hp
  have hMi : M[i]? = some (.disk p A) := by rw [← hM, List.getElem?_set_ne (fun e => hij e.symm)]; exact hi
  have hMj : M[j]? = some (.logv l p g v0) := by rw [← hM, List.getElem?_set_self (List.getElem?_eq_some_iff.1 hj).1]
  obtain ⟨r, hat, hBl⟩ := hp.logv hMj
  obtain ⟨ad, cap, b, off, hv, had⟩ := form_of hat
  subst hv
  obtain ⟨n, hn⟩ : ∃ n, g.segs.length = n := ⟨_, rfl⟩
  rw [hn] at hMj hM had hN hR hrd ⊢
  have HFIN : Hid (∀ (gg : AL) (X : List Item) (W : World), Lies B W (M.set j (.logv l p gg (.slice ad n cap)) ++ X) → Lies B W (L.set j (.log l p gg) ++ X)) := fun gg X W hl => by
    have hjl := (List.getElem?_eq_some_iff.1 hMj).1
    have := hl.unpin (j := j) (get_head (List.getElem?_set_self hjl))
    rw [hset_app _ (by rw [List.length_set]; exact hjl), List.set_set, ← hM, List.set_set] at this
    exact this
  obtain ⟨s0, hs0⟩ : ∃ s : RSt, s = ⟨[], 0, g.segs, false⟩ := ⟨_, rfl⟩
  rw [← hs0] at hR
  obtain ⟨st, hst⟩ : ∃ f : Nat → RSt, f = rdK A g.name.data.toList s0 := ⟨_, rfl⟩
  have hst0 : st 0 = s0 := by rw [hst]; rfl
  have HRNG : Hid (∀ k, (-1 ≤ (st k).next ∧ (st k).next ≤ 1152921504606846976 + 16384 * (k : Int)) ∧ (st k).pay.length ≤ 16384 * k) := fun k => by rw [hst]; exact rdK_range A _ s0 (by rw [hs0]) (by rw [hs0]) k
  have HLEN : Hid (∀ k, (st k).segs.length = n) := fun k => by rw [hst, rdK_len, hs0]; exact hn
  have HNUM : Hid (∀ k q, ((st k).segs.getD q ⟨0, 0, 0⟩).num = (g.segs.getD q ⟨0, 0, 0⟩).num) := fun k q => by rw [hst, rdK_num, hs0]
  have HSTEP : Hid (∀ k, st (k + 1) = rdStep A g.name.data.toList (st k) k) := fun k => by rw [hst]; rfl
  have HSTOP : Hid (∀ k, k < n → (∀ q, 0 < q → q ≤ k → (st q).torn = false) → (st (k + 1)).torn = true → R = (k + 1, st (k + 1))) := fun k hk h1 h2 => by rw [← hR, hst]; rw [hst] at h1 h2; exact rdFin_stop hk h1 h2
  have HT0 : Hid ((st 0).torn = false) := by show _ = _; rw [hst0, hs0]
  have HALL : Hid ((∀ q, 0 < q → q ≤ n → (st q).torn = false) → R = (n, st n)) := fun h1 => by rw [← hR, hst]; rw [hst] at h1; exact rdFin_all h1
  obtain ⟨g0, hg0⟩ : ∃ x, w.heap.size = x := ⟨_, rfl⟩
  obtain ⟨w1, hw1⟩ : ∃ x, w.alloc (.cells #[.pointer (some ⟨l, 0, none⟩)] 29) = x := ⟨_, rfl⟩
  obtain ⟨hl1, hb1⟩ := hp.newCells #[.pointer (some ⟨l, 0, none⟩)] 29
  rw [hw1, hg0] at hl1
  rw [hw1] at hb1
  obtain ⟨g1, hg1⟩ : ∃ x, w1.heap.size = x := ⟨_, rfl⟩
  obtain ⟨w2, hw2⟩ : ∃ x, w1.alloc (.cells #[.slice none 0 0] 30) = x := ⟨_, rfl⟩
  obtain ⟨hl2, hb2⟩ := hl1.newCells #[.slice none 0 0] 30
  rw [hw2, hg1] at hl2
  rw [hw2] at hb2
  obtain ⟨g2, hg2⟩ : ∃ x, w2.heap.size = x := ⟨_, rfl⟩
  obtain ⟨w3, hw3⟩ : ∃ x, w2.alloc (.cells #[.bool false] 4) = x := ⟨_, rfl⟩
  obtain ⟨hl3, hb3⟩ := hl2.newCells #[.bool false] 4
  rw [hw3, hg2] at hl3
  rw [hw3] at hb3
  obtain ⟨g3, hg3⟩ : ∃ x, w3.heap.size = x := ⟨_, rfl⟩
  obtain ⟨w4, hw4⟩ : ∃ x, w3.alloc (.cells #[.int .i64 0] 24) = x := ⟨_, rfl⟩
  obtain ⟨hl4, hb4⟩ := hl3.newCells #[.int .i64 0] 24
  rw [hw4, hg3] at hl4
  rw [hw4] at hb4
  obtain ⟨g4, hg4⟩ : ∃ x, w4.heap.size = x := ⟨_, rfl⟩
  obtain ⟨w5, hw5⟩ : ∃ x, w4.alloc (.cells #[.slice none 0 0] 30) = x := ⟨_, rfl⟩
  obtain ⟨hl5, hb5⟩ := hl4.newCells #[.slice none 0 0] 30
  rw [hw5, hg4] at hl5
  rw [hw5] at hb5
  obtain ⟨g5, hg5⟩ : ∃ x, w5.heap.size = x := ⟨_, rfl⟩
  obtain ⟨w6, hw6⟩ : ∃ x, w5.alloc (.cells #[.int .i64 0] 3) = x := ⟨_, rfl⟩
  obtain ⟨hl6, hb6⟩ := hl5.newCells #[.int .i64 0] 3
  rw [hw6, hg5] at hl6
  rw [hw6] at hb6
  obtain ⟨g6, hg6⟩ : ∃ x, w6.heap.size = x := ⟨_, rfl⟩
  obtain ⟨w7, hw7⟩ : ∃ x, w6.alloc (.cells #[.bool false] 4) = x := ⟨_, rfl⟩
  obtain ⟨hl7, hb7⟩ := hl6.newCells #[.bool false] 4
  rw [hw7, hg6] at hl7
  rw [hw7] at hb7
  simp only [List.append_assoc, List.cons_append, List.nil_append] at hl7
  have y5 : w7.cell? ⟨g5, 0, none⟩ = some (.int .i64 0) := by rw [hl7.cellAt (q := M.length + 5) (b := g5) (cs := #[.int .i64 0]) (T := 3) (by rw [get_tail]; rfl)]; rfl
  have y5' : w7.frozen? ⟨g5, 0, none⟩ = false := hl7.frozenAt (q := M.length + 5) (b := g5) (cs := #[.int .i64 0]) (T := 3) (by rw [get_tail]; rfl) 0
  obtain ⟨w7a, hw7a⟩ : ∃ x, w7.setCell ⟨g5, 0, none⟩ (.int .i64 0) = x := ⟨_, rfl⟩
  obtain ⟨hl7a, hb7a⟩ := hl7.setAt (q := M.length + 5) (b := g5) (cs := #[.int .i64 0]) (T := 3) (by rw [get_tail]; rfl) 0 (.int .i64 0)
  rw [hw7a, hset_keep (by rw [get_tail]; rfl)] at hl7a
  rw [hw7a] at hb7a
  have y6 : w7a.cell? ⟨g6, 0, none⟩ = some (.bool false) := by rw [hl7a.cellAt (q := M.length + 6) (b := g6) (cs := #[.bool false]) (T := 4) (by rw [get_tail]; rfl)]; rfl
  have y6' : w7a.frozen? ⟨g6, 0, none⟩ = false := hl7a.frozenAt (q := M.length + 6) (b := g6) (cs := #[.bool false]) (T := 4) (by rw [get_tail]; rfl) 0
  obtain ⟨w7b, hw7b⟩ : ∃ x, w7a.setCell ⟨g6, 0, none⟩ (.bool false) = x := ⟨_, rfl⟩
  obtain ⟨hl7b, hb7b⟩ := hl7a.setAt (q := M.length + 6) (b := g6) (cs := #[.bool false]) (T := 4) (by rw [get_tail]; rfl) 0 (.bool false)
  rw [hw7b, hset_keep (by rw [get_tail]; rfl)] at hl7b
  rw [hw7b] at hb7b
  obtain ⟨g7, hg7⟩ : ∃ x, w7b.heap.size = x := ⟨_, rfl⟩
  obtain ⟨w8, hw8⟩ : ∃ x, w7b.alloc (.cells #[.pointer (some ⟨l, 0, none⟩)] 29) = x := ⟨_, rfl⟩
  obtain ⟨hl8, hb8⟩ := hl7b.newCells #[.pointer (some ⟨l, 0, none⟩)] 29
  rw [hw8, hg7] at hl8
  rw [hw8] at hb8
  have hlr := hl8.pushNil 9
  have hb9 := ((((((((hb1.trans hb2).trans hb3).trans hb4).trans hb5).trans hb6).trans hb7).trans hb7a).trans hb7b).trans hb8
  simp only [List.append_assoc, List.cons_append, List.nil_append] at hlr
  obtain ⟨XX, hXX⟩ : ∃ X : Value → Int → Bool → List Key → List Item, X = fun v n t ks => [.block g0 (.cells #[.pointer (some ⟨l, 0, none⟩)] 29 (0, 0)), .block g1 (.cells #[.slice none 0 0] 30 (0, 0)), .block g2 (.cells #[.bool false] 4 (0, 0)), .block g3 (.cells #[.int .i64 0] 24 (0, 0)), .block g4 (.cells #[v] 30 (0, 0)), .block g5 (.cells #[.int .i64 n] 3 (0, 0)), .block g6 (.cells #[.bool t] 4 (0, 0)), .block g7 (.cells #[.pointer (some ⟨l, 0, none⟩)] 29 (0, 0)), .row 9 v (ks.map encStr)] := ⟨_, rfl⟩
  have HX0 : Hid (∀ v m t ks, (XX v m t ks)[0]? = some (.block g0 (.cells #[.pointer (some ⟨l, 0, none⟩)] 29 (0, 0)))) := fun v m t ks => by rw [hXX]; rfl
  have HX1 : Hid (∀ v m t ks, (XX v m t ks)[1]? = some (.block g1 (.cells #[.slice none 0 0] 30 (0, 0)))) := fun v m t ks => by rw [hXX]; rfl
  have HX2 : Hid (∀ v m t ks, (XX v m t ks)[2]? = some (.block g2 (.cells #[.bool false] 4 (0, 0)))) := fun v m t ks => by rw [hXX]; rfl
  have HX3 : Hid (∀ v m t ks, (XX v m t ks)[3]? = some (.block g3 (.cells #[.int .i64 0] 24 (0, 0)))) := fun v m t ks => by rw [hXX]; rfl
  have HX4 : Hid (∀ v m t ks, (XX v m t ks)[4]? = some (.block g4 (.cells #[v] 30 (0, 0)))) := fun v m t ks => by rw [hXX]; rfl
  have HX5 : Hid (∀ v m t ks, (XX v m t ks)[5]? = some (.block g5 (.cells #[.int .i64 m] 3 (0, 0)))) := fun v m t ks => by rw [hXX]; rfl
  have HX6 : Hid (∀ v m t ks, (XX v m t ks)[6]? = some (.block g6 (.cells #[.bool t] 4 (0, 0)))) := fun v m t ks => by rw [hXX]; rfl
  have HX7 : Hid (∀ v m t ks, (XX v m t ks)[7]? = some (.block g7 (.cells #[.pointer (some ⟨l, 0, none⟩)] 29 (0, 0)))) := fun v m t ks => by rw [hXX]; rfl
  have HX8 : Hid (∀ v m t ks, (XX v m t ks)[8]? = some (.row 9 v (ks.map encStr))) := fun v m t ks => by rw [hXX]; rfl
  have HXL : Hid (∀ v m t ks, (XX v m t ks).length = 9) := fun v m t ks => by rw [hXX]; rfl
  have HXt : Hid (∀ v m t t' ks, (XX v m t ks).set 6 (.block g6 (.cells (#[Value.bool t].setIfInBounds 0 (.bool t')) 4 (0, 0))) = XX v m t' ks) := fun v m t t' ks => by rw [hXX]; rfl
  have HXm : Hid (∀ v m m' t ks, (XX v m t ks).set 5 (.block g5 (.cells (#[Value.int .i64 m].setIfInBounds 0 (.int .i64 m')) 3 (0, 0))) = XX v m' t ks) := fun v m m' t ks => by rw [hXX]; rfl
  have HXv : Hid (∀ v v' m t ks ks', ((XX v m t ks).set 8 (.row 9 v' (ks'.map encStr))).set 4 (.block g4 (.cells (#[v].setIfInBounds 0 v') 30 (0, 0))) = XX v' m t ks') := fun v v' m t ks ks' => by rw [hXX]; rfl
  have HXr : Hid (∀ v m t ks v' tb e, ((((XX v m t ks).set 1 (.block g1 (.cells (#[Value.slice none 0 0].setIfInBounds 0 v') 30 (0, 0)))).set 2 (.block g2 (.cells (#[Value.bool false].setIfInBounds 0 (.bool tb)) 4 (0, 0)))).set 3 (.block g3 (.cells (#[Value.int .i64 0].setIfInBounds 0 (.int .i64 e)) 24 (0, 0)))) = [.block g0 (.cells #[.pointer (some ⟨l, 0, none⟩)] 29 (0, 0)), .block g1 (.cells #[v'] 30 (0, 0)), .block g2 (.cells #[.bool tb] 4 (0, 0)), .block g3 (.cells #[.int .i64 e] 24 (0, 0)), .block g4 (.cells #[v] 30 (0, 0)), .block g5 (.cells #[.int .i64 m] 3 (0, 0)), .block g6 (.cells #[.bool t] 4 (0, 0)), .block g7 (.cells #[.pointer (some ⟨l, 0, none⟩)] 29 (0, 0)), .row 9 v (ks.map encStr)]) := fun v m t ks v' tb e => by rw [hXX]; rfl
  have hl9 : Lies B w8 (M.set j (.logv l p { g with segs := (st 0).segs, next := (st 0).next } (.slice ad n cap)) ++ XX (.slice none 0 0) 0 false (st 0).pay) := by
    rw [hst0, hs0, hXX]
    simp only
    have e : ({ g with segs := g.segs, next := 0 } : AL) = g := by cases g; simp only at hnx; subst hnx; rfl
    rw [e, hset_keep hMj]
    exact hlr
  have HP0 : Hid ((st 0).pay = []) := by show _ = _; rw [hst0, hs0]
  have HL9 := hide hl9
  have HB9 := hide hb9
  have HE := hide he
  have HG := hide hg
  have HAD := hide had
  have HMi := hide hMi
  have HMj := hide hMj
  have HIJ := hide hij
  have HRD := hide hrd
  have HNN := hide hn
  have hz0 : w7b.cell? ⟨g0, 0, none⟩ = some (.pointer (some ⟨l, 0, none⟩)) := by
    rw [hl7b.cellAt (q := M.length + 0) (b := g0) (cs := #[.pointer (some ⟨l, 0, none⟩)]) (T := 29) (by rw [get_tail]; rfl)]; rfl
  clear h hi hj hp hat hlr hl9 hb9 he hg had hM hMi hMj hij hXX hBl hrd hn hst hst0 hs0 hR hl1 hb1 hl2 hb2 hl3 hb3 hl4 hb4 hl5 hb5 hl6 hb6 hl7 hb7 hl8 hb8 hl7a hl7b hb7a hb7b
  refine (callsIn_wide (n := 6)).1 ?_
  refine callsIn_of_wp_marks Tryz.func34 rfl trivial ?_ rfl
  simp only [Tryz.ntmps34, List.size_toArray, List.length_cons, List.length_nil, Nat.reduceAdd, Nat.reduceSub, Array.replicate_succ, Array.replicate_zero, List.push_toArray, List.append_toArray, List.nil_append, List.cons_append]
  have f38 : Fence.wide.fn 31 := trivial
  have hio : Calls Tryz.prog 31 #[.pointer (some ⟨l, 0, none⟩)] w7b fun e w' => e = .returned (.func (.func 55) #[] #[.pointer (some ⟨g7, 0, none⟩)]) ∧ w' = w8 := by
    have := inOrder_any l w7b
    rw [hg7, hw8] at this
    exact this
  have HIO := hide hio
  clear hio
  refine wpIn_wide.2 ?_
  go_wp2
  go_step3
  go_wp2
  go_step3
  go_wp2_with fail
  refine HIO.out.mono ?_
  rintro e w' ⟨rfl, hw⟩
  obtain rfl := hw.symm
  go_wp2
  clear HIO hw8 hw7b hw7a hw7 hw6 hw5 hw4 hw3 hw2 hw1 hg7 hg6 hg5 hg4 hg3 hg2 hg1 hg0 hz0 f38 y5 y5' y6 y6'
  refine (wpIn_wide (n := 6)).1 ?_
  refine wp_rangeFunc_held 6 (by omega) (gf := 55) (lb := #[.pointer (some ⟨g7, 0, none⟩)]) rfl (enters_of Tryz.func55 (by kernel_rfl) rfl) (encs b off g.fileAt) n (fun _ => rfl)
    (fun ob k W => (∀ q, 0 < q → q ≤ k → (st q).torn = false) ∧ ∃ adp capp, Lies B W ((M.set j (.logv l p { g with segs := (st (k)).segs, next := (st (k)).next } (.slice ad n cap)) ++ XX (.slice adp (st k).pay.length capp) (k : Int) false ((st k).pay)) ++ [.block w8.heap.size (.deferred (some [])), .block (w8.heap.size + 1) ob]) ∧ Below B w W)
    (fun c ob W => c = .exit 0 ∧ ∃ k, k < n ∧ (∀ q, 0 < q → q ≤ k → (st q).torn = false) ∧ (st (k + 1)).torn = true ∧ ∃ adp capp, Lies B W ((M.set j (.logv l p { g with segs := (st (k + 1)).segs, next := (st (k + 1)).next } (.slice ad n cap)) ++ XX (.slice adp (st (k + 1)).pay.length capp) ((k + 1 : Nat) : Int) true ((st (k + 1)).pay)) ++ [.block w8.heap.size (.deferred (some [])), .block (w8.heap.size + 1) ob]) ∧ Below B w W)
    (fun ob k W ⟨_, adp, capp, hl, _⟩ => held_get hl)
    (fun ob ob' k W ⟨ht, adp, capp, hl, hb⟩ => ⟨ht, adp, capp, (held_put ob' hl).1, hb.trans (held_put ob' hl).2⟩)
    (fun c ob W ⟨_, k, _, _, _, adp, capp, hl, _⟩ => held_get hl)
    (fun c ob ob' W ⟨hc, k, hk, h1, h2, adp, capp, hl, hb⟩ => ⟨hc, k, hk, h1, h2, adp, capp, (held_put ob' hl).1, hb.trans (held_put ob' hl).2⟩)
    (fun ob => ⟨fun q h0 hq => by omega, none, 0, by rw [HP0.out]; have := (held_new HL9.out (.deferred (some [])) ob).1; rw [HP0.out] at this; exact this, HB9.out.trans (held_new HL9.out _ _).2⟩)
    ?seq
    (fun k => { tmps := #[.pointer (some ⟨l, 0, none⟩), .pointer (some ⟨g0, 0, none⟩), .pointer (some ⟨g1, 0, none⟩), .pointer (some ⟨g2, 0, none⟩), .pointer (some ⟨g3, 0, none⟩), .pointer (some ⟨g4, 0, none⟩), .pointer (some ⟨g5, 0, none⟩), .pointer (some ⟨g6, 0, none⟩), .pointer (some ⟨b, off + k * 3, none⟩), .string (g.fileAt k), undef, undef, undef, .pointer (some ⟨l, 0, none⟩), .func (.func 55) #[] #[.pointer (some ⟨g7, 0, none⟩)], .pointer (some ⟨b, off + k * 3, none⟩), .string (g.fileAt k), undef, undef, undef, undef, undef, undef, undef, undef, undef, undef, undef, undef, undef, undef, undef, undef, undef, undef, undef, undef, undef, undef, undef, undef, undef, undef, undef, undef, undef, undef, undef, undef, undef, undef, undef, undef, undef, undef, undef, undef, undef, undef, undef, undef, undef, undef, undef, undef, undef, undef, undef, undef, undef, undef, undef, undef, undef, undef, undef, undef, undef, undef, undef, undef, undef, undef, undef], defers := [] }) ?assign ?body ?done ?stop
  case seq =>
    intro ob Jx hY W h0
    have hjl := (List.getElem?_eq_some_iff.1 HMj.out).1
    refine iter_in 5 (w8.heap.size + 1) (by omega) g7 l b off n cap ad HAD.out (by omega) (fun k => (g.segs.getD k ⟨0, 0, 0⟩).num) g.fileAt _ Jx ?_ ?_ ?_ hY W h0
    · rintro k W ⟨_, adp, capp, hl, _⟩
      obtain ⟨r, hat, _⟩ := hl.logv (j := j) (get_head (get_head (List.getElem?_set_self hjl)))
      refine view_of' hat (HLEN.out k).symm (fun q => HNUM.out k q) HAD.out ?_
      rw [Lies.cellAt (L := _ ++ _) (q := (M.set j (.logv l p { g with segs := (st (k)).segs, next := (st (k)).next } (.slice ad n cap))).length + 7) hl (get_head (by rw [get_tail]; exact HX7.out _ _ _ _))]; rfl
    · rintro k W W' ⟨ht, adp, capp, hl, hb⟩ hb'
      exact ⟨ht, adp, capp, hl.below hb', hb.trans (hb'.mono hl.base)⟩
    · rintro k W z f hk ⟨_, adp, capp, hl, hb⟩
      obtain ⟨r, hat, hBl⟩ := hl.logv (j := j) (get_head (get_head (List.getElem?_set_self hjl)))
      exact file_any l _ z f g.name W hat.c1 (lt_of_some hat.cells) HG.out.name (HG.out.num k).1 (HG.out.num k).2 (HE.out.below hb) hl.base
  case assign =>
    intro k W K hK
    unfold encs
    gi_wp2
    exact hK
  case body =>
    rintro ob k W hk ⟨hto, adp, capp, hl, hb⟩
    obtain rfl := HAD.out (by omega)
    have hjl := (List.getElem?_eq_some_iff.1 HMj.out).1
    have hli : (M.set j (.logv l p { g with segs := (st (k)).segs, next := (st (k)).next } (.slice (some ⟨b, off, none⟩) n cap)))[i]? = some (.disk p A) := by rw [List.getElem?_set_ne (fun e => HIJ.out e.symm)]; exact HMi.out
    obtain ⟨T, hT⟩ : ∃ T : ByteArray, (⟨(A.read (g.fileAt k).data.toList 0 1048576).1.toArray⟩ : ByteArray) = T := ⟨_, rfl⟩
    have hFz : (g.fileAt k).size ≤ maxLen := by have := fileB_size (b := g.name) HG.out.name (HG.out.num k).1 (HG.out.num k).2; unfold AL.fileAt maxLen; omega
    have hc := s_read hl (get_head (get_head hli)) (g.fileAt k) hFz 0 1048576
    rw [hT, HRD.out k hk] at hc
    have HTX : Hid (textOf A g.name.data.toList ((st k).segs.getD k ⟨0, 0, 0⟩).num = T.data.toList) := by
      show _ = _
      rw [HNUM.out k k, ← hT]
      rfl
    have HTZ : Hid (T.size ≤ 1048576) := by
      show _ ≤ _
      rw [← str_len, ← HTX.out]; exact text_len _ _
    have c0 : W.cell? ⟨g0, 0, none⟩ = some (.pointer (some ⟨l, 0, none⟩)) := by rw [hl.cellAt (get3b (HX0.out _ _ _ _))]; rfl
    obtain ⟨r1, hat1, _⟩ := hl.logv (j := j) (get_head (get_head (List.getElem?_set_self hjl)))
    have c1 := hat1.c0
    have HC := hide hc
    have HBW := hide hb
    have HTO := hide hto
    have f54 : Fence.wide.fn 61 := trivial
    clear hl hb hc hat1 hT hFz hli hto
    gi_wp2_with fail
    refine (CallsIn.inRound _ ((callsIn_wide (n := _)).2 HC.out)).mono ?_
    rintro e W1 ⟨rfl, hl1, hb1⟩
    have hb1' := HBW.out.trans hb1
    have z4 : W1.cell? ⟨g4, 0, none⟩ = some (.slice adp (st k).pay.length capp) := by rw [hl1.cellAt (get3b (HX4.out _ _ _ _))]; rfl
    by_cases hpe : (st k).pay = []
    · have hpl : (st k).pay.length = 0 := by rw [hpe]; rfl
      have d0 : (((st k).pay.length : Int) == 0) = true := beq_iff_eq.2 (by omega)
      obtain ⟨NX, hNX⟩ : ∃ x, firstN T.data.toList = x := ⟨_, rfl⟩
      have HNX : Hid (NX = if (st k).pay = [] then firstN T.data.toList else (st k).next) := by show _ = _; rw [if_pos hpe, hNX]
      have HNXB : Hid (-1 ≤ NX ∧ NX ≤ 1152921504606846976 + 16384 * 16) := by
        have := firstN_range T.data.toList
        rw [hNX] at this
        refine ⟨this.1, ?_⟩
        omega
      have hfc := firstNumber_any T (by have := HTZ.out; omega) W1.drew
      rw [hNX] at hfc
      have c0' : W1.cell? ⟨g0, 0, none⟩ = some (.pointer (some ⟨l, 0, none⟩)) := by rw [hl1.cellAt (get3b (HX0.out _ _ _ _))]; rfl
      obtain ⟨r1, hat1, _⟩ := hl1.logv (j := j) (get_head (get_head (List.getElem?_set_self hjl)))
      have c4 := hat1.c4
      have c4' := hat1.fz 4
      obtain ⟨hl1d, hb2⟩ := hl1.setNext (j := j) (get_head (get_head (List.getElem?_set_self hjl))) NX
      rw [set3a (by rw [List.length_set]; exact hjl), List.set_set] at hl1d
      have hl2 : Lies B (W1.setCell ⟨l, 4, none⟩ (.int .i64 NX)).drew _ := hl1d.same (Nat.le_refl _) (fun _ _ _ => rfl)
      have hb2' := (hb1'.trans hb2).drew
      obtain ⟨W2, hW2⟩ : ∃ x, (W1.setCell ⟨l, 4, none⟩ (.int .i64 NX)).drew = x := ⟨_, rfl⟩
      rw [hW2] at hl2 hb2'
      have HFC := hide hfc
      have HW2 := hide hW2
      have HLL2 := hide hl2
      have HBB2 := hide hb2'
      have f105 : Fence.wide.fn 62 := trivial
      have hmx : Tryz.prog.follows .mixedOrders = true := by kernel_rfl
      clear hl1 hb1 hb1' hpl hNX HC HBW hpe c0 c1 hat1 hl1d hl2 hb2 hb2' hW2 hfc
      gi_wp2
      gi_region_with_o (gi_at_call 62; refine (CallsIn.inRound _ ((callsIn_wide (n := _)).2 HFC.out)).mono ?_; rintro e w' ⟨rfl, hw⟩; obtain rfl := hw.symm)
      all_goals
      · rw [HW2.out]
        have hl2 := HLL2.out
        have hb2 := HBB2.out
        clear HLL2 HBB2 HW2 HFC c0' c4 c4' z4
        have hLl : (M.set j (.logv l p { g with segs := (st k).segs, next := NX } (.slice (some ⟨b, off, none⟩) n cap))).length = M.length := List.length_set
        have y0 : W2.cell? ⟨g0, 0, none⟩ = some (.pointer (some ⟨l, 0, none⟩)) := by rw [hl2.cellAt (get3b (HX0.out _ _ _ _))]; rfl
        obtain ⟨r2, hat2, _⟩ := hl2.logv (j := j) (get_head (get_head (List.getElem?_set_self hjl)))
        have y1 : W2.cell? ⟨l, 4, none⟩ = some (.int .i64 NX) := hat2.c4
        have hsc := Fr.scan_any T NX W2 (by have := HNXB.out; omega) (by have := HTZ.out; omega)
        have HSC := hide hsc
        have HL2 := hide hl2
        have HB2 := hide hb2
        have f106 : Fence.wide.fn 63 := trivial
        clear hsc hl2 hb2 hat2
        gi_wp2_with fail
        refine (CallsIn.inRound _ ((callsIn_wide (n := _)).2 HSC.out)).mono ?_
        rintro e W3 ⟨adm, capm, ps, t', rfl, hown, hfd, hbb⟩
        have hsa := scanA_of hfd
        have hfew := @scan_few' T.data.toList NX
        rw [hsa] at hfew
        obtain ⟨SZ, hSZ⟩ : ∃ z : Int, ((T.size - t'.length : Nat) : Int) = z := ⟨_, rfl⟩
        obtain ⟨TB, hTB⟩ : ∃ z : Bool, (!t'.isEmpty) = z := ⟨_, rfl⟩
        rw [hSZ, hTB]
        obtain ⟨NX2, hNX2⟩ : ∃ z : Int, NX + (ps.length : Int) = z := ⟨_, rfl⟩
        obtain ⟨sg, hsg⟩ : ∃ z, (st k).segs.getD k ⟨0, 0, 0⟩ = z := ⟨_, rfl⟩
        have hkl : k < (st k).segs.length := by rw [HLEN.out]; exact hk
        have hsg' : (st k).segs[k] = sg := by rw [← hsg, List.getD_eq_getElem?_getD, List.getElem?_eq_getElem hkl]; rfl
        have HST1 : Hid (st (k + 1) = ⟨(st k).pay ++ ps, NX2, (st k).segs.set k ⟨sg.num, SZ, NX2⟩, TB⟩) := by
          show _ = _
          rw [HSTEP.out k]
          unfold rdStep
          simp only
          rw [HTX.out, hsg, ← HNX.out, hsa, hNX2]
          simp only [str_len, hSZ, hTB]
        have hl3 : Lies B W3 (((M.set j (.logv l p { g with segs := (st k).segs, next := NX } (.slice (some ⟨b, off, none⟩) n cap)) ++ XX (.slice adp (st k).pay.length capp) (k : Int) false ((st k).pay)) ++ [.block w8.heap.size (.deferred (some [])), .block (w8.heap.size + 1) ob]) ++ [.row 9 (.slice adm ps.length capm) (ps.map encStr)]) := HL2.out.push (it := .row 9 (.slice adm ps.length capm) (ps.map encStr)) (S' := fun x => (Value.slice adm ps.length capm).ownBlock = some x) hbb ⟨own_base' hown, fun _ => Iff.rfl⟩ (fun x hx => (World.ownsRow.lt hown x hx).1)
        have hb3 := HB2.out.trans (hbb.mono HL2.out.base)
        rw [List.append_assoc] at hl3
        obtain ⟨Z, hZ⟩ : ∃ Z : List Item, [.block w8.heap.size (.deferred (some [])), .block (w8.heap.size + 1) ob] ++ [.row 9 (.slice adm ps.length capm) (ps.map encStr)] = Z := ⟨_, rfl⟩
        rw [hZ] at hl3
        have hs1 := hl3.setSeg (j := j) (get_head (get_head (List.getElem?_set_self hjl))) k hkl 1 (by omega) SZ ⟨sg.num, SZ, sg.fin⟩ (by rw [hsg']; rfl)
        rw [set3a (by rw [List.length_set]; exact hjl), List.set_set] at hs1
        obtain ⟨r3, hat3, _⟩ := hl3.logv (j := j) (get_head (get_head (List.getElem?_set_self hjl)))
        obtain ⟨zz3, ff3, p1, p1', p2, p2'⟩ := seg_cells hat3 k hkl
        obtain ⟨W4, hW4⟩ : ∃ x, W3.setCell ⟨b, off + k * 3 + 1, none⟩ (.int .i64 SZ) = x := ⟨_, rfl⟩
        rw [hW4] at hs1
        obtain ⟨hl4, hb4⟩ := hs1
        have q6 : W4.cell? ⟨g6, 0, none⟩ = some (.bool false) := by rw [hl4.cellAt (get3b (HX6.out _ _ _ _))]; rfl
        have q6' : W4.frozen? ⟨g6, 0, none⟩ = false := hl4.frozenAt (get3b (HX6.out _ _ _ _)) 0
        have hs2 := hl4.setAt (get3b (HX6.out _ _ _ _)) 0 (.bool TB)
        rw [set3b (by rw [HXL.out]; omega), HXt.out] at hs2
        obtain ⟨W5, hW5⟩ : ∃ x, W4.setCell ⟨g6, 0, none⟩ (.bool TB) = x := ⟨_, rfl⟩
        rw [hW5] at hs2
        obtain ⟨hl5, hb5⟩ := hs2
        have q4 : W5.cell? ⟨g4, 0, none⟩ = some (.slice adp (st k).pay.length capp) := by rw [hl5.cellAt (get3b (HX4.out _ _ _ _))]; rfl
        have hpl := (HRNG.out k).2
        have hps : ps.length ≤ 16384 := by have := HTZ.out; rw [str_len] at hfew; simp only at hfew; omega
        obtain ⟨ad6, n6, cap6, W6, hap, hn6, hl6, hb6⟩ := app_texts hl5 (get3b (HX8.out _ _ _ _)) (get_z2 hZ) (by omega) 30
        rw [set3b (by rw [HXL.out]; omega)] at hl6
        have q8 : ((XX (.slice adp (st k).pay.length capp) (k : Int) TB (st k).pay).set 8 (.row 9 (.slice ad6 n6 cap6) (((st k).pay ++ ps).map encStr)))[4]? = some (.block g4 (.cells #[.slice adp (st k).pay.length capp] 30 (0, 0))) := by rw [List.getElem?_set_ne (by decide)]; exact HX4.out _ _ _ _
        have q5 : W6.cell? ⟨g4, 0, none⟩ = some (.slice adp (st k).pay.length capp) := by rw [hl6.cellAt (get3b q8)]; rfl
        have q5' : W6.frozen? ⟨g4, 0, none⟩ = false := hl6.frozenAt (get3b q8) 0
        have hs3 := hl6.setAt (get3b q8) 0 (.slice ad6 n6 cap6)
        rw [set3b (by rw [List.length_set, HXL.out]; omega), HXv.out] at hs3
        obtain ⟨W7, hW7⟩ : ∃ x, W6.setCell ⟨g4, 0, none⟩ (.slice ad6 n6 cap6) = x := ⟨_, rfl⟩
        rw [hW7] at hs3
        obtain ⟨hl7, hb7⟩ := hs3
        have u0 : W7.cell? ⟨g0, 0, none⟩ = some (.pointer (some ⟨l, 0, none⟩)) := by rw [hl7.cellAt (get3b (HX0.out _ _ _ _))]; rfl
        obtain ⟨r7, hat7, _⟩ := hl7.logv (j := j) (get_head (get_head (List.getElem?_set_self hjl)))
        have u4 : W7.cell? ⟨l, 4, none⟩ = some (.int .i64 NX) := hat7.c4
        have u4' : W7.frozen? ⟨l, 4, none⟩ = false := hat7.fz 4
        have hs4 := hl7.setNext (j := j) (get_head (get_head (List.getElem?_set_self hjl))) NX2
        rw [set3a (by rw [List.length_set]; exact hjl), List.set_set] at hs4
        obtain ⟨W8, hW8⟩ : ∃ x, W7.setCell ⟨l, 4, none⟩ (.int .i64 NX2) = x := ⟨_, rfl⟩
        rw [hW8] at hs4
        obtain ⟨hl8, hb8⟩ := hs4
        have v0 : W8.cell? ⟨g0, 0, none⟩ = some (.pointer (some ⟨l, 0, none⟩)) := by rw [hl8.cellAt (get3b (HX0.out _ _ _ _))]; rfl
        obtain ⟨r8, hat8, _⟩ := hl8.logv (j := j) (get_head (get_head (List.getElem?_set_self hjl)))
        have v4 : W8.cell? ⟨l, 4, none⟩ = some (.int .i64 NX2) := hat8.c4
        have hkl8 : k < ((st k).segs.set k ⟨sg.num, SZ, sg.fin⟩).length := by rw [List.length_set]; exact hkl
        obtain ⟨zz8, ff8, _, _, v2, v2'⟩ := seg_cells hat8 k hkl8
        have hs5 := hl8.setSeg (j := j) (get_head (get_head (List.getElem?_set_self hjl))) k hkl8 2 (by omega) NX2 ⟨sg.num, SZ, NX2⟩ (by rw [List.getElem_set_self]; rfl)
        rw [set3a (by rw [List.length_set]; exact hjl), List.set_set] at hs5
        simp only [List.set_set] at hs5
        obtain ⟨W9, hW9⟩ : ∃ x, W8.setCell ⟨b, off + k * 3 + 2, none⟩ (.int .i64 NX2) = x := ⟨_, rfl⟩
        rw [hW9] at hs5
        obtain ⟨hl9', hb9'⟩ := hs5
        have x5 : W9.cell? ⟨g5, 0, none⟩ = some (.int .i64 (k : Int)) := by rw [hl9'.cellAt (get3b (HX5.out _ _ _ _))]; rfl
        have x5' : W9.frozen? ⟨g5, 0, none⟩ = false := hl9'.frozenAt (get3b (HX5.out _ _ _ _)) 0
        have hs6 := hl9'.setAt (get3b (HX5.out _ _ _ _)) 0 (.int .i64 ((k : Int) + 1))
        rw [set3b (by rw [HXL.out]; omega), HXm.out] at hs6
        obtain ⟨WA, hWA⟩ : ∃ x, W9.setCell ⟨g5, 0, none⟩ (.int .i64 ((k : Int) + 1)) = x := ⟨_, rfl⟩
        rw [hWA] at hs6
        obtain ⟨hlA, hbA⟩ := hs6
        have x6 : WA.cell? ⟨g6, 0, none⟩ = some (.bool TB) := by rw [hlA.cellAt (get3b (HX6.out _ _ _ _))]; rfl
        have HLA : Hid (Lies B WA ((M.set j (.logv l p { g with segs := (st (k + 1)).segs, next := (st (k + 1)).next } (.slice (some ⟨b, off, none⟩) n cap)) ++ XX (.slice ad6 (st (k + 1)).pay.length cap6) ((k + 1 : Nat) : Int) (st (k + 1)).torn ((st (k + 1)).pay)) ++ [.block w8.heap.size (.deferred (some [])), .block (w8.heap.size + 1) ob])) := by
          have e := hlA
          rw [← hZ, ← List.append_assoc] at e
          have e2 := e.drop
          rw [HST1.out]
          simp only
          rw [← hn6, show ((k + 1 : Nat) : Int) = (k : Int) + 1 by omega]
          exact e2
        have HBA := hide ((((((((hb3.trans hb4).trans hb5).trans hb6).trans hb7).trans hb8).trans hb9').trans hbA))
        have HTT : Hid ((st (k + 1)).torn = TB) := by show _ = _; rw [HST1.out]
        have wn : wrap64 (NX + (ps.length : Int)) = NX2 := by rw [← hNX2]; have := HNXB.out; unfold wrap64; omega
        have wk : wrap64 ((k : Int) + 1) = (k : Int) + 1 := by unfold wrap64; omega
        have HAP := hide hap
        clear hap hown hfd hbb hsa hfew hSZ hTB hNX2 hsg hsg' hkl hkl8 hl3 hl4 hl5 hl6 hl7 hl8 hl9' hlA hb3 hb4 hb5 hb6 hb7 hb8 hb9' hbA hat3 hat7 hat8 hZ hpl hps hn6 q8 HSC HL2 HB2 hLl HST1 p2 p2'
        cases TB with
        | true =>
          gi_wp2_with (gi_at_builtin; refine wpListIn_kapp rfl _ _ _ rfl HAP.out ?_)
          exact ⟨rfl, k, hk, HTO.out, HTT.out, ad6, cap6, by have := HLA.out; rw [HTT.out] at this; exact this, HBA.out⟩
        | false =>
          gi_wp2_with (gi_at_builtin; refine wpListIn_kapp rfl _ _ _ rfl HAP.out ?_)
          refine ⟨fun q h0 hq => ?_, ad6, cap6, by have := HLA.out; rw [HTT.out] at this; exact this, HBA.out⟩
          rcases Nat.lt_or_ge k q with hlt | hge
          · have : q = k + 1 := by omega
            rw [this]; exact HTT.out
          · exact HTO.out q h0 hge
    · have hpl : (st k).pay.length ≠ 0 := fun e => hpe (List.length_eq_zero_iff.1 e)
      have d0 : (((st k).pay.length : Int) == 0) = false := beq_eq_false_iff_ne.2 (by omega)
      obtain ⟨NX, hNX⟩ : ∃ x, (st k).next = x := ⟨_, rfl⟩
      have HNX : Hid (NX = if (st k).pay = [] then firstN T.data.toList else (st k).next) := by show _ = _; rw [if_neg hpe, hNX]
      have HNXB : Hid (-1 ≤ NX ∧ NX ≤ 1152921504606846976 + 16384 * 16) := by
        have := (HRNG.out k).1
        rw [hNX] at this
        refine ⟨this.1, ?_⟩
        omega
      have hl2 := hl1
      rw [hNX] at hl2
      have hb2 := hb1'
      obtain ⟨W2, hW2⟩ : ∃ x, W1 = x := ⟨_, rfl⟩
      subst hW2
      clear hl1 hb1 hb1' hpl hNX HC HBW hpe c0 c1
      have hLl : (M.set j (.logv l p { g with segs := (st k).segs, next := NX } (.slice (some ⟨b, off, none⟩) n cap))).length = M.length := List.length_set
      have y0 : W1.cell? ⟨g0, 0, none⟩ = some (.pointer (some ⟨l, 0, none⟩)) := by rw [hl2.cellAt (get3b (HX0.out _ _ _ _))]; rfl
      obtain ⟨r2, hat2, _⟩ := hl2.logv (j := j) (get_head (get_head (List.getElem?_set_self hjl)))
      have y1 : W1.cell? ⟨l, 4, none⟩ = some (.int .i64 NX) := hat2.c4
      have hsc := Fr.scan_any T NX W1 (by have := HNXB.out; omega) (by have := HTZ.out; omega)
      have HSC := hide hsc
      have HL2 := hide hl2
      have HB2 := hide hb2
      have f106 : Fence.wide.fn 63 := trivial
      clear hsc hl2 hb2 hat2
      gi_wp2_with fail
      refine (CallsIn.inRound _ ((callsIn_wide (n := _)).2 HSC.out)).mono ?_
      rintro e W3 ⟨adm, capm, ps, t', rfl, hown, hfd, hbb⟩
      have hsa := scanA_of hfd
      have hfew := @scan_few' T.data.toList NX
      rw [hsa] at hfew
      obtain ⟨SZ, hSZ⟩ : ∃ z : Int, ((T.size - t'.length : Nat) : Int) = z := ⟨_, rfl⟩
      obtain ⟨TB, hTB⟩ : ∃ z : Bool, (!t'.isEmpty) = z := ⟨_, rfl⟩
      rw [hSZ, hTB]
      obtain ⟨NX2, hNX2⟩ : ∃ z : Int, NX + (ps.length : Int) = z := ⟨_, rfl⟩
      obtain ⟨sg, hsg⟩ : ∃ z, (st k).segs.getD k ⟨0, 0, 0⟩ = z := ⟨_, rfl⟩
      have hkl : k < (st k).segs.length := by rw [HLEN.out]; exact hk
      have hsg' : (st k).segs[k] = sg := by rw [← hsg, List.getD_eq_getElem?_getD, List.getElem?_eq_getElem hkl]; rfl
      have HST1 : Hid (st (k + 1) = ⟨(st k).pay ++ ps, NX2, (st k).segs.set k ⟨sg.num, SZ, NX2⟩, TB⟩) := by
        show _ = _
        rw [HSTEP.out k]
        unfold rdStep
        simp only
        rw [HTX.out, hsg, ← HNX.out, hsa, hNX2]
        simp only [str_len, hSZ, hTB]
      have hl3 : Lies B W3 (((M.set j (.logv l p { g with segs := (st k).segs, next := NX } (.slice (some ⟨b, off, none⟩) n cap)) ++ XX (.slice adp (st k).pay.length capp) (k : Int) false ((st k).pay)) ++ [.block w8.heap.size (.deferred (some [])), .block (w8.heap.size + 1) ob]) ++ [.row 9 (.slice adm ps.length capm) (ps.map encStr)]) := HL2.out.push (it := .row 9 (.slice adm ps.length capm) (ps.map encStr)) (S' := fun x => (Value.slice adm ps.length capm).ownBlock = some x) hbb ⟨own_base' hown, fun _ => Iff.rfl⟩ (fun x hx => (World.ownsRow.lt hown x hx).1)
      have hb3 := HB2.out.trans (hbb.mono HL2.out.base)
      rw [List.append_assoc] at hl3
      obtain ⟨Z, hZ⟩ : ∃ Z : List Item, [.block w8.heap.size (.deferred (some [])), .block (w8.heap.size + 1) ob] ++ [.row 9 (.slice adm ps.length capm) (ps.map encStr)] = Z := ⟨_, rfl⟩
      rw [hZ] at hl3
      have hs1 := hl3.setSeg (j := j) (get_head (get_head (List.getElem?_set_self hjl))) k hkl 1 (by omega) SZ ⟨sg.num, SZ, sg.fin⟩ (by rw [hsg']; rfl)
      rw [set3a (by rw [List.length_set]; exact hjl), List.set_set] at hs1
      obtain ⟨r3, hat3, _⟩ := hl3.logv (j := j) (get_head (get_head (List.getElem?_set_self hjl)))
      obtain ⟨zz3, ff3, p1, p1', p2, p2'⟩ := seg_cells hat3 k hkl
      obtain ⟨W4, hW4⟩ : ∃ x, W3.setCell ⟨b, off + k * 3 + 1, none⟩ (.int .i64 SZ) = x := ⟨_, rfl⟩
      rw [hW4] at hs1
      obtain ⟨hl4, hb4⟩ := hs1
      have q6 : W4.cell? ⟨g6, 0, none⟩ = some (.bool false) := by rw [hl4.cellAt (get3b (HX6.out _ _ _ _))]; rfl
      have q6' : W4.frozen? ⟨g6, 0, none⟩ = false := hl4.frozenAt (get3b (HX6.out _ _ _ _)) 0
      have hs2 := hl4.setAt (get3b (HX6.out _ _ _ _)) 0 (.bool TB)
      rw [set3b (by rw [HXL.out]; omega), HXt.out] at hs2
      obtain ⟨W5, hW5⟩ : ∃ x, W4.setCell ⟨g6, 0, none⟩ (.bool TB) = x := ⟨_, rfl⟩
      rw [hW5] at hs2
      obtain ⟨hl5, hb5⟩ := hs2
      have q4 : W5.cell? ⟨g4, 0, none⟩ = some (.slice adp (st k).pay.length capp) := by rw [hl5.cellAt (get3b (HX4.out _ _ _ _))]; rfl
      have hpl := (HRNG.out k).2
      have hps : ps.length ≤ 16384 := by have := HTZ.out; rw [str_len] at hfew; simp only at hfew; omega
      obtain ⟨ad6, n6, cap6, W6, hap, hn6, hl6, hb6⟩ := app_texts hl5 (get3b (HX8.out _ _ _ _)) (get_z2 hZ) (by omega) 30
      rw [set3b (by rw [HXL.out]; omega)] at hl6
      have q8 : ((XX (.slice adp (st k).pay.length capp) (k : Int) TB (st k).pay).set 8 (.row 9 (.slice ad6 n6 cap6) (((st k).pay ++ ps).map encStr)))[4]? = some (.block g4 (.cells #[.slice adp (st k).pay.length capp] 30 (0, 0))) := by rw [List.getElem?_set_ne (by decide)]; exact HX4.out _ _ _ _
      have q5 : W6.cell? ⟨g4, 0, none⟩ = some (.slice adp (st k).pay.length capp) := by rw [hl6.cellAt (get3b q8)]; rfl
      have q5' : W6.frozen? ⟨g4, 0, none⟩ = false := hl6.frozenAt (get3b q8) 0
      have hs3 := hl6.setAt (get3b q8) 0 (.slice ad6 n6 cap6)
      rw [set3b (by rw [List.length_set, HXL.out]; omega), HXv.out] at hs3
      obtain ⟨W7, hW7⟩ : ∃ x, W6.setCell ⟨g4, 0, none⟩ (.slice ad6 n6 cap6) = x := ⟨_, rfl⟩
      rw [hW7] at hs3
      obtain ⟨hl7, hb7⟩ := hs3
      have u0 : W7.cell? ⟨g0, 0, none⟩ = some (.pointer (some ⟨l, 0, none⟩)) := by rw [hl7.cellAt (get3b (HX0.out _ _ _ _))]; rfl
      obtain ⟨r7, hat7, _⟩ := hl7.logv (j := j) (get_head (get_head (List.getElem?_set_self hjl)))
      have u4 : W7.cell? ⟨l, 4, none⟩ = some (.int .i64 NX) := hat7.c4
      have u4' : W7.frozen? ⟨l, 4, none⟩ = false := hat7.fz 4
      have hs4 := hl7.setNext (j := j) (get_head (get_head (List.getElem?_set_self hjl))) NX2
      rw [set3a (by rw [List.length_set]; exact hjl), List.set_set] at hs4
      obtain ⟨W8, hW8⟩ : ∃ x, W7.setCell ⟨l, 4, none⟩ (.int .i64 NX2) = x := ⟨_, rfl⟩
      rw [hW8] at hs4
      obtain ⟨hl8, hb8⟩ := hs4
      have v0 : W8.cell? ⟨g0, 0, none⟩ = some (.pointer (some ⟨l, 0, none⟩)) := by rw [hl8.cellAt (get3b (HX0.out _ _ _ _))]; rfl
      obtain ⟨r8, hat8, _⟩ := hl8.logv (j := j) (get_head (get_head (List.getElem?_set_self hjl)))
      have v4 : W8.cell? ⟨l, 4, none⟩ = some (.int .i64 NX2) := hat8.c4
      have hkl8 : k < ((st k).segs.set k ⟨sg.num, SZ, sg.fin⟩).length := by rw [List.length_set]; exact hkl
      obtain ⟨zz8, ff8, _, _, v2, v2'⟩ := seg_cells hat8 k hkl8
      have hs5 := hl8.setSeg (j := j) (get_head (get_head (List.getElem?_set_self hjl))) k hkl8 2 (by omega) NX2 ⟨sg.num, SZ, NX2⟩ (by rw [List.getElem_set_self]; rfl)
      rw [set3a (by rw [List.length_set]; exact hjl), List.set_set] at hs5
      simp only [List.set_set] at hs5
      obtain ⟨W9, hW9⟩ : ∃ x, W8.setCell ⟨b, off + k * 3 + 2, none⟩ (.int .i64 NX2) = x := ⟨_, rfl⟩
      rw [hW9] at hs5
      obtain ⟨hl9', hb9'⟩ := hs5
      have x5 : W9.cell? ⟨g5, 0, none⟩ = some (.int .i64 (k : Int)) := by rw [hl9'.cellAt (get3b (HX5.out _ _ _ _))]; rfl
      have x5' : W9.frozen? ⟨g5, 0, none⟩ = false := hl9'.frozenAt (get3b (HX5.out _ _ _ _)) 0
      have hs6 := hl9'.setAt (get3b (HX5.out _ _ _ _)) 0 (.int .i64 ((k : Int) + 1))
      rw [set3b (by rw [HXL.out]; omega), HXm.out] at hs6
      obtain ⟨WA, hWA⟩ : ∃ x, W9.setCell ⟨g5, 0, none⟩ (.int .i64 ((k : Int) + 1)) = x := ⟨_, rfl⟩
      rw [hWA] at hs6
      obtain ⟨hlA, hbA⟩ := hs6
      have x6 : WA.cell? ⟨g6, 0, none⟩ = some (.bool TB) := by rw [hlA.cellAt (get3b (HX6.out _ _ _ _))]; rfl
      have HLA : Hid (Lies B WA ((M.set j (.logv l p { g with segs := (st (k + 1)).segs, next := (st (k + 1)).next } (.slice (some ⟨b, off, none⟩) n cap)) ++ XX (.slice ad6 (st (k + 1)).pay.length cap6) ((k + 1 : Nat) : Int) (st (k + 1)).torn ((st (k + 1)).pay)) ++ [.block w8.heap.size (.deferred (some [])), .block (w8.heap.size + 1) ob])) := by
        have e := hlA
        rw [← hZ, ← List.append_assoc] at e
        have e2 := e.drop
        rw [HST1.out]
        simp only
        rw [← hn6, show ((k + 1 : Nat) : Int) = (k : Int) + 1 by omega]
        exact e2
      have HBA := hide ((((((((hb3.trans hb4).trans hb5).trans hb6).trans hb7).trans hb8).trans hb9').trans hbA))
      have HTT : Hid ((st (k + 1)).torn = TB) := by show _ = _; rw [HST1.out]
      have wn : wrap64 (NX + (ps.length : Int)) = NX2 := by rw [← hNX2]; have := HNXB.out; unfold wrap64; omega
      have wk : wrap64 ((k : Int) + 1) = (k : Int) + 1 := by unfold wrap64; omega
      have HAP := hide hap
      clear hap hown hfd hbb hsa hfew hSZ hTB hNX2 hsg hsg' hkl hkl8 hl3 hl4 hl5 hl6 hl7 hl8 hl9' hlA hb3 hb4 hb5 hb6 hb7 hb8 hb9' hbA hat3 hat7 hat8 hZ hpl hps hn6 q8 HSC HL2 HB2 hLl HST1 p2 p2'
      cases TB with
      | true =>
        gi_wp2_with (gi_at_builtin; refine wpListIn_kapp rfl _ _ _ rfl HAP.out ?_)
        exact ⟨rfl, k, hk, HTO.out, HTT.out, ad6, cap6, by have := HLA.out; rw [HTT.out] at this; exact this, HBA.out⟩
      | false =>
        gi_wp2_with (gi_at_builtin; refine wpListIn_kapp rfl _ _ _ rfl HAP.out ?_)
        refine ⟨fun q h0 hq => ?_, ad6, cap6, by have := HLA.out; rw [HTT.out] at this; exact this, HBA.out⟩
        rcases Nat.lt_or_ge k q with hlt | hge
        · have : q = k + 1 := by omega
          rw [this]; exact HTT.out
        · exact HTO.out q h0 hge
  case done =>
    rintro ob W ⟨hto, adp, capp, hl, hb⟩
    have hRE := HALL.out hto
    have hTB : (st n).torn = false := by
      rcases Nat.eq_zero_or_pos n with h0 | h0
      · rw [h0]; exact HT0.out
      · exact hto n h0 (Nat.le_refl _)
    have t6 : W.cell? ⟨g6, 0, none⟩ = some (.bool false) := by rw [hl.cellAt (get3b (HX6.out _ _ _ _))]; rfl
    have t4 : W.cell? ⟨g4, 0, none⟩ = some (.slice adp (st n).pay.length capp) := by rw [hl.cellAt (get3b (HX4.out _ _ _ _))]; rfl
    have t1 : W.cell? ⟨g1, 0, none⟩ = some (.slice none 0 0) := by rw [hl.cellAt (get3b (HX1.out _ _ _ _))]; rfl
    have t1' : W.frozen? ⟨g1, 0, none⟩ = false := hl.frozenAt (get3b (HX1.out _ _ _ _)) 0
    have t2 : W.cell? ⟨g2, 0, none⟩ = some (.bool false) := by rw [hl.cellAt (get3b (HX2.out _ _ _ _))]; rfl
    have t2' : W.frozen? ⟨g2, 0, none⟩ = false := hl.frozenAt (get3b (HX2.out _ _ _ _)) 0
    have t3 : W.cell? ⟨g3, 0, none⟩ = some (.int .i64 0) := by rw [hl.cellAt (get3b (HX3.out _ _ _ _))]; rfl
    have t3' : W.frozen? ⟨g3, 0, none⟩ = false := hl.frozenAt (get3b (HX3.out _ _ _ _)) 0
    go_wp2
    go_quiet (fail)
    go_wp2
    obtain ⟨V0, hV0⟩ : ∃ x, (W.drewN nq).drew = x := ⟨_, rfl⟩
    have hv0 := hl.same (w' := (W.drewN nq).drew) (Nat.le_refl _) (fun _ _ _ => rfl)
    rw [hV0] at hv0
    have hvb0 : Below B w V0 := by rw [← hV0]; exact (drewN_below hb nq).drew
    have k1 : V0.cell? ⟨g1, 0, none⟩ = some (.slice none 0 0) := by rw [hv0.cellAt (get3b (q := 1) (by exact HX1.out _ _ _ _))]; rfl
    have k1' : V0.frozen? ⟨g1, 0, none⟩ = false := hv0.frozenAt (get3b (q := 1) (by exact HX1.out _ _ _ _)) 0
    have hs1 := hv0.setAt (get3b (q := 1) (by exact HX1.out _ _ _ _)) 0 (.slice adp (st (n)).pay.length capp)
    rw [set3b (by simp only [HXL.out]; omega)] at hs1
    obtain ⟨V1, hV1⟩ : ∃ x, V0.setCell ⟨g1, 0, none⟩ (.slice adp (st (n)).pay.length capp) = x := ⟨_, rfl⟩
    rw [hV1] at hs1
    obtain ⟨hv1, hvb1⟩ := hs1
    have k2 : V1.cell? ⟨g2, 0, none⟩ = some (.bool false) := by rw [hv1.cellAt (get3b (q := 2) (by rw [List.getElem?_set_ne (by decide)]; exact HX2.out _ _ _ _))]; rfl
    have k2' : V1.frozen? ⟨g2, 0, none⟩ = false := hv1.frozenAt (get3b (q := 2) (by rw [List.getElem?_set_ne (by decide)]; exact HX2.out _ _ _ _)) 0
    have hs2 := hv1.setAt (get3b (q := 2) (by rw [List.getElem?_set_ne (by decide)]; exact HX2.out _ _ _ _)) 0 (.bool false)
    rw [set3b (by simp only [List.length_set, HXL.out]; omega)] at hs2
    obtain ⟨V2, hV2⟩ : ∃ x, V1.setCell ⟨g2, 0, none⟩ (.bool false) = x := ⟨_, rfl⟩
    rw [hV2] at hs2
    obtain ⟨hv2, hvb2⟩ := hs2
    have k3 : V2.cell? ⟨g3, 0, none⟩ = some (.int .i64 0) := by rw [hv2.cellAt (get3b (q := 3) (by rw [List.getElem?_set_ne (by decide)]; rw [List.getElem?_set_ne (by decide)]; exact HX3.out _ _ _ _))]; rfl
    have k3' : V2.frozen? ⟨g3, 0, none⟩ = false := hv2.frozenAt (get3b (q := 3) (by rw [List.getElem?_set_ne (by decide)]; rw [List.getElem?_set_ne (by decide)]; exact HX3.out _ _ _ _)) 0
    have hs3 := hv2.setAt (get3b (q := 3) (by rw [List.getElem?_set_ne (by decide)]; rw [List.getElem?_set_ne (by decide)]; exact HX3.out _ _ _ _)) 0 (.int .i64 0)
    rw [set3b (by simp only [List.length_set, HXL.out]; omega)] at hs3
    obtain ⟨V3, hV3⟩ : ∃ x, V2.setCell ⟨g3, 0, none⟩ (.int .i64 0) = x := ⟨_, rfl⟩
    rw [hV3] at hs3
    obtain ⟨hv3, hvb3⟩ := hs3
    rw [HXr.out] at hv3
    have m40 : V0.cell? ⟨g4, 0, none⟩ = some (.slice adp (st (n)).pay.length capp) := by rw [hv0.cellAt (get3b (q := 4) (by exact HX4.out _ _ _ _))]; rfl
    have m60 : V0.cell? ⟨g6, 0, none⟩ = some (.bool false) := by rw [hv0.cellAt (get3b (q := 6) (by exact HX6.out _ _ _ _))]; rfl
    have m41 : V1.cell? ⟨g4, 0, none⟩ = some (.slice adp (st (n)).pay.length capp) := by rw [hv1.cellAt (get3b (q := 4) (by rw [List.getElem?_set_ne (by decide)]; exact HX4.out _ _ _ _))]; rfl
    have m61 : V1.cell? ⟨g6, 0, none⟩ = some (.bool false) := by rw [hv1.cellAt (get3b (q := 6) (by rw [List.getElem?_set_ne (by decide)]; exact HX6.out _ _ _ _))]; rfl
    have m42 : V2.cell? ⟨g4, 0, none⟩ = some (.slice adp (st (n)).pay.length capp) := by rw [hv2.cellAt (get3b (q := 4) (by rw [List.getElem?_set_ne (by decide)]; rw [List.getElem?_set_ne (by decide)]; exact HX4.out _ _ _ _))]; rfl
    have m62 : V2.cell? ⟨g6, 0, none⟩ = some (.bool false) := by rw [hv2.cellAt (get3b (q := 6) (by rw [List.getElem?_set_ne (by decide)]; rw [List.getElem?_set_ne (by decide)]; exact HX6.out _ _ _ _))]; rfl
    have m43 : V3.cell? ⟨g4, 0, none⟩ = some (.slice adp (st (n)).pay.length capp) := by rw [hv3.cellAt (b := g4) (cs := #[.slice adp (st (n)).pay.length capp]) (T := 30) (get3b (q := 4) rfl)]; rfl
    have m63 : V3.cell? ⟨g6, 0, none⟩ = some (.bool false) := by rw [hv3.cellAt (b := g6) (cs := #[.bool false]) (T := 4) (get3b (q := 6) rfl)]; rfl
    obtain ⟨hd1, hd2⟩ := held_drop hv3 (.deferred none)
    have HK := hide (held_get hv3).2
    have e1 := hd1.cellAt (b := g1) (cs := #[.slice adp (st (n)).pay.length capp]) (T := 30) (q := (M.set j (.logv l p { g with segs := (st (n)).segs, next := (st (n)).next } (.slice ad n cap))).length + 1) (by rw [get_tail]; rfl) 0
    have e2 := hd1.cellAt (b := g2) (cs := #[.bool false]) (T := 4) (q := (M.set j (.logv l p { g with segs := (st (n)).segs, next := (st (n)).next } (.slice ad n cap))).length + 2) (by rw [get_tail]; rfl) 0
    have e3 := hd1.cellAt (b := g3) (cs := #[.int .i64 0]) (T := 24) (q := (M.set j (.logv l p { g with segs := (st (n)).segs, next := (st (n)).next } (.slice ad n cap))).length + 3) (by rw [get_tail]; rfl) 0
    have HD1 := hide (HFIN.out _ _ _ (hd1.keep1 (n := 8) (x := .row 9 (.slice adp (st (n)).pay.length capp) ((st (n)).pay.map encStr)) rfl))
    have HBD := hide (((hvb0.trans hvb1).trans hvb2).trans (hvb3.trans hd2))
    have HE1 := hide e1
    have HE2 := hide e2
    have HE3 := hide e3
    have M41 := hide m41
    have M61 := hide m61
    have M42 := hide m42
    have M62 := hide m62
    have M43 := hide m43
    have M63 := hide m63
    have HV0 := hide hV0
    have HRE := hide hRE
    clear hl hb hv0 hv1 hv2 hv3 hvb0 hvb1 hvb2 hvb3 hd1 hd2 e1 e2 e3 m41 m61 m42 m62 m43 m63 hV0 hRE t1 t1' t2 t2' t3 t3' t4 t6
    refine wp_region_noPanic ?_
    refine wp_region_held_drew (S := fun wx => wx.cell? ⟨g4, 0, none⟩ = some (.slice adp (st (n)).pay.length capp) ∧ wx.cell? ⟨g6, 0, none⟩ = some (.bool false)) (by kernel_rfl) (by rw [HV0.out]; exact ⟨m40, m60⟩) (fun hHeld => ?_)
    rw [HV0.out] at hHeld ⊢
    refine tH 0 (some 82) (.slice adp (st (n)).pay.length capp) rfl (fun w hw => by have hw1 := hw.1; first | rfl | (go_simp; done) | (go_simp; rfl)) hHeld ?_
    simp only [Act.put, pA, pB, pC]
    refine tH 1 (some 83) (.bool false) rfl (fun w hw => by have hw1 := hw.2; first | rfl | (go_simp; done) | (go_simp; rfl)) hHeld ?_
    simp only [Act.put, pA, pB, pC]
    refine rdH 2 rfl (fun K hK => ?_)
    go_simp
    try rw [hV1]
    refine hK.out _ _ (⟨M41.out, M61.out⟩) (fun hH => ?_)
    clear hK K hHeld
    have hHeld := hH
    clear hH
    refine rdH 3 rfl (fun K hK => ?_)
    go_simp
    try rw [hV2]
    refine hK.out _ _ (⟨M42.out, M62.out⟩) (fun hH => ?_)
    clear hK K hHeld
    have hHeld := hH
    clear hH
    refine rdH 4 rfl (fun K hK => ?_)
    go_simp
    try rw [hV3]
    refine hK.out _ _ (⟨M43.out, M63.out⟩) (fun hH => ?_)
    clear hK K hHeld
    have hHeld := hH
    clear hH
    refine ⟨by kernel_rfl, ?_⟩
    refine NoPanic.normal ?_
    go_wp2
    simp only [Exit.noGoto_ret]
    refine ⟨by simp, .inl ⟨_, _, rfl, run_takeDeferred HK.out, ?_⟩⟩
    have E1 := HE1.out
    have E2 := HE2.out
    have E3 := HE3.out
    have hro : rdOut n R = ((st (n)).pay, false, 0) := by
      rw [HRE.out]; unfold rdOut
      rw [if_neg (by rintro ⟨h1, h2⟩; simp only at h1 h2; omega)]
      exact Prod.ext rfl (Prod.ext hTB rfl)
    refine ⟨.tuple #[.slice adp (st (n)).pay.length capp, .bool false, .int .i64 0], by simp [results, Tryz.f34, go_sem, E1, E2, E3], _, by rw [hro], ?_, HBD.out⟩
    rw [hro, HRE.out]
    exact HD1.out
  case stop =>
    rintro c ob W ⟨rfl, k, hk, hto, hTB, adp, capp, hl, hb⟩
    have hRE := HSTOP.out k hk hto hTB
    have hjl := (List.getElem?_eq_some_iff.1 HMj.out).1
    obtain ⟨r1, hat1, _⟩ := hl.logv (j := j) (get_head (get_head (List.getElem?_set_self hjl)))
    have t0 : W.cell? ⟨g0, 0, none⟩ = some (.pointer (some ⟨l, 0, none⟩)) := by rw [hl.cellAt (get3b (HX0.out _ _ _ _))]; rfl
    have tl := hat1.c3
    have t5 : W.cell? ⟨g5, 0, none⟩ = some (.int .i64 ((k + 1 : Nat) : Int)) := by rw [hl.cellAt (get3b (HX5.out _ _ _ _))]; rfl
    have t6 : W.cell? ⟨g6, 0, none⟩ = some (.bool true) := by rw [hl.cellAt (get3b (HX6.out _ _ _ _))]; rfl
    have t4 : W.cell? ⟨g4, 0, none⟩ = some (.slice adp (st (k + 1)).pay.length capp) := by rw [hl.cellAt (get3b (HX4.out _ _ _ _))]; rfl
    have t1 : W.cell? ⟨g1, 0, none⟩ = some (.slice none 0 0) := by rw [hl.cellAt (get3b (HX1.out _ _ _ _))]; rfl
    have t1' : W.frozen? ⟨g1, 0, none⟩ = false := hl.frozenAt (get3b (HX1.out _ _ _ _)) 0
    have t2 : W.cell? ⟨g2, 0, none⟩ = some (.bool false) := by rw [hl.cellAt (get3b (HX2.out _ _ _ _))]; rfl
    have t2' : W.frozen? ⟨g2, 0, none⟩ = false := hl.frozenAt (get3b (HX2.out _ _ _ _)) 0
    have t3 : W.cell? ⟨g3, 0, none⟩ = some (.int .i64 0) := by rw [hl.cellAt (get3b (HX3.out _ _ _ _))]; rfl
    have t3' : W.frozen? ⟨g3, 0, none⟩ = false := hl.frozenAt (get3b (HX3.out _ _ _ _)) 0
    by_cases hkn : k + 1 < n
    · have d1 : decide (((k + 1 : Nat) : Int) < (n : Int)) = true := decide_eq_true (by omega)
      have d2 : decide (k + 1 < n) = true := decide_eq_true hkn
      have d3 : decide ((k : Int) + 1 < (n : Int)) = true := decide_eq_true (by omega)
      gi_wp2
      go_wp2
      go_quiet (fail)
      obtain ⟨V0, hV0⟩ : ∃ x, W.drewN nq = x := ⟨_, rfl⟩
      have hv0 := hl.same (w' := W.drewN nq) (Nat.le_refl _) (fun _ _ _ => rfl)
      rw [hV0] at hv0 ⊢
      have hvb0 : Below B w V0 := by rw [← hV0]; exact drewN_below hb nq
      have k1 : V0.cell? ⟨g1, 0, none⟩ = some (.slice none 0 0) := by rw [hv0.cellAt (get3b (q := 1) (by exact HX1.out _ _ _ _))]; rfl
      have k1' : V0.frozen? ⟨g1, 0, none⟩ = false := hv0.frozenAt (get3b (q := 1) (by exact HX1.out _ _ _ _)) 0
      have hs1 := hv0.setAt (get3b (q := 1) (by exact HX1.out _ _ _ _)) 0 (.slice none 0 0)
      rw [set3b (by simp only [HXL.out]; omega)] at hs1
      obtain ⟨V1, hV1⟩ : ∃ x, V0.setCell ⟨g1, 0, none⟩ (.slice none 0 0) = x := ⟨_, rfl⟩
      rw [hV1] at hs1
      obtain ⟨hv1, hvb1⟩ := hs1
      have k2 : V1.cell? ⟨g2, 0, none⟩ = some (.bool false) := by rw [hv1.cellAt (get3b (q := 2) (by rw [List.getElem?_set_ne (by decide)]; exact HX2.out _ _ _ _))]; rfl
      have k2' : V1.frozen? ⟨g2, 0, none⟩ = false := hv1.frozenAt (get3b (q := 2) (by rw [List.getElem?_set_ne (by decide)]; exact HX2.out _ _ _ _)) 0
      have hs2 := hv1.setAt (get3b (q := 2) (by rw [List.getElem?_set_ne (by decide)]; exact HX2.out _ _ _ _)) 0 (.bool false)
      rw [set3b (by simp only [List.length_set, HXL.out]; omega)] at hs2
      obtain ⟨V2, hV2⟩ : ∃ x, V1.setCell ⟨g2, 0, none⟩ (.bool false) = x := ⟨_, rfl⟩
      rw [hV2] at hs2
      obtain ⟨hv2, hvb2⟩ := hs2
      have k3 : V2.cell? ⟨g3, 0, none⟩ = some (.int .i64 0) := by rw [hv2.cellAt (get3b (q := 3) (by rw [List.getElem?_set_ne (by decide)]; rw [List.getElem?_set_ne (by decide)]; exact HX3.out _ _ _ _))]; rfl
      have k3' : V2.frozen? ⟨g3, 0, none⟩ = false := hv2.frozenAt (get3b (q := 3) (by rw [List.getElem?_set_ne (by decide)]; rw [List.getElem?_set_ne (by decide)]; exact HX3.out _ _ _ _)) 0
      have hs3 := hv2.setAt (get3b (q := 3) (by rw [List.getElem?_set_ne (by decide)]; rw [List.getElem?_set_ne (by decide)]; exact HX3.out _ _ _ _)) 0 (.int .i64 60)
      rw [set3b (by simp only [List.length_set, HXL.out]; omega)] at hs3
      obtain ⟨V3, hV3⟩ : ∃ x, V2.setCell ⟨g3, 0, none⟩ (.int .i64 60) = x := ⟨_, rfl⟩
      rw [hV3] at hs3
      obtain ⟨hv3, hvb3⟩ := hs3
      rw [HXr.out] at hv3
      obtain ⟨hd1, hd2⟩ := held_drop hv3 (.deferred none)
      have HK := hide (held_get hv3).2
      have e1 := hd1.cellAt (b := g1) (cs := #[.slice none 0 0]) (T := 30) (q := (M.set j (.logv l p { g with segs := (st (k + 1)).segs, next := (st (k + 1)).next } (.slice ad n cap))).length + 1) (by rw [get_tail]; rfl) 0
      have e2 := hd1.cellAt (b := g2) (cs := #[.bool false]) (T := 4) (q := (M.set j (.logv l p { g with segs := (st (k + 1)).segs, next := (st (k + 1)).next } (.slice ad n cap))).length + 2) (by rw [get_tail]; rfl) 0
      have e3 := hd1.cellAt (b := g3) (cs := #[.int .i64 60]) (T := 24) (q := (M.set j (.logv l p { g with segs := (st (k + 1)).segs, next := (st (k + 1)).next } (.slice ad n cap))).length + 3) (by rw [get_tail]; rfl) 0
      have HD1 := hide (HFIN.out _ _ _ hd1).drop
      have HBD := hide (((hvb0.trans hvb1).trans hvb2).trans (hvb3.trans hd2))
      have HE1 := hide e1
      have HE2 := hide e2
      have HE3 := hide e3
      have HRE := hide hRE
      clear hl hb hv0 hv1 hv2 hv3 hvb0 hvb1 hvb2 hvb3 hd1 hd2 e1 e2 e3 hV0 hRE t1 t1' t2 t2' t3 t3' t4 t6
      go_wp2
      simp only [Exit.noGoto_ret]
      refine ⟨by simp, .inl ⟨_, _, rfl, run_takeDeferred HK.out, ?_⟩⟩
      have E1 := HE1.out
      have E2 := HE2.out
      have E3 := HE3.out
      have hro : rdOut n R = ([], false, 60) := by
        rw [HRE.out]; unfold rdOut
        rw [if_pos ⟨hTB, hkn⟩]
      refine ⟨.tuple #[.slice none 0 0, .bool false, .int .i64 60], by simp [results, Tryz.f34, go_sem, E1, E2, E3], _, by rw [hro], ?_, HBD.out⟩
      rw [hro, HRE.out]
      exact HD1.out.pushNil 9
    · have d1 : decide (((k + 1 : Nat) : Int) < (n : Int)) = false := decide_eq_false (by omega)
      have d2 : decide (k + 1 < n) = false := decide_eq_false hkn
      have d3 : decide ((k : Int) + 1 < (n : Int)) = false := decide_eq_false (by omega)
      gi_wp2
      go_wp2
      go_quiet (fail)
      go_wp2
      obtain ⟨V0, hV0⟩ : ∃ x, (W.drewN nq).drew = x := ⟨_, rfl⟩
      have hv0 := hl.same (w' := (W.drewN nq).drew) (Nat.le_refl _) (fun _ _ _ => rfl)
      rw [hV0] at hv0
      have hvb0 : Below B w V0 := by rw [← hV0]; exact (drewN_below hb nq).drew
      have k1 : V0.cell? ⟨g1, 0, none⟩ = some (.slice none 0 0) := by rw [hv0.cellAt (get3b (q := 1) (by exact HX1.out _ _ _ _))]; rfl
      have k1' : V0.frozen? ⟨g1, 0, none⟩ = false := hv0.frozenAt (get3b (q := 1) (by exact HX1.out _ _ _ _)) 0
      have hs1 := hv0.setAt (get3b (q := 1) (by exact HX1.out _ _ _ _)) 0 (.slice adp (st (k + 1)).pay.length capp)
      rw [set3b (by simp only [HXL.out]; omega)] at hs1
      obtain ⟨V1, hV1⟩ : ∃ x, V0.setCell ⟨g1, 0, none⟩ (.slice adp (st (k + 1)).pay.length capp) = x := ⟨_, rfl⟩
      rw [hV1] at hs1
      obtain ⟨hv1, hvb1⟩ := hs1
      have k2 : V1.cell? ⟨g2, 0, none⟩ = some (.bool false) := by rw [hv1.cellAt (get3b (q := 2) (by rw [List.getElem?_set_ne (by decide)]; exact HX2.out _ _ _ _))]; rfl
      have k2' : V1.frozen? ⟨g2, 0, none⟩ = false := hv1.frozenAt (get3b (q := 2) (by rw [List.getElem?_set_ne (by decide)]; exact HX2.out _ _ _ _)) 0
      have hs2 := hv1.setAt (get3b (q := 2) (by rw [List.getElem?_set_ne (by decide)]; exact HX2.out _ _ _ _)) 0 (.bool true)
      rw [set3b (by simp only [List.length_set, HXL.out]; omega)] at hs2
      obtain ⟨V2, hV2⟩ : ∃ x, V1.setCell ⟨g2, 0, none⟩ (.bool true) = x := ⟨_, rfl⟩
      rw [hV2] at hs2
      obtain ⟨hv2, hvb2⟩ := hs2
      have k3 : V2.cell? ⟨g3, 0, none⟩ = some (.int .i64 0) := by rw [hv2.cellAt (get3b (q := 3) (by rw [List.getElem?_set_ne (by decide)]; rw [List.getElem?_set_ne (by decide)]; exact HX3.out _ _ _ _))]; rfl
      have k3' : V2.frozen? ⟨g3, 0, none⟩ = false := hv2.frozenAt (get3b (q := 3) (by rw [List.getElem?_set_ne (by decide)]; rw [List.getElem?_set_ne (by decide)]; exact HX3.out _ _ _ _)) 0
      have hs3 := hv2.setAt (get3b (q := 3) (by rw [List.getElem?_set_ne (by decide)]; rw [List.getElem?_set_ne (by decide)]; exact HX3.out _ _ _ _)) 0 (.int .i64 0)
      rw [set3b (by simp only [List.length_set, HXL.out]; omega)] at hs3
      obtain ⟨V3, hV3⟩ : ∃ x, V2.setCell ⟨g3, 0, none⟩ (.int .i64 0) = x := ⟨_, rfl⟩
      rw [hV3] at hs3
      obtain ⟨hv3, hvb3⟩ := hs3
      rw [HXr.out] at hv3
      have m40 : V0.cell? ⟨g4, 0, none⟩ = some (.slice adp (st (k + 1)).pay.length capp) := by rw [hv0.cellAt (get3b (q := 4) (by exact HX4.out _ _ _ _))]; rfl
      have m60 : V0.cell? ⟨g6, 0, none⟩ = some (.bool true) := by rw [hv0.cellAt (get3b (q := 6) (by exact HX6.out _ _ _ _))]; rfl
      have m41 : V1.cell? ⟨g4, 0, none⟩ = some (.slice adp (st (k + 1)).pay.length capp) := by rw [hv1.cellAt (get3b (q := 4) (by rw [List.getElem?_set_ne (by decide)]; exact HX4.out _ _ _ _))]; rfl
      have m61 : V1.cell? ⟨g6, 0, none⟩ = some (.bool true) := by rw [hv1.cellAt (get3b (q := 6) (by rw [List.getElem?_set_ne (by decide)]; exact HX6.out _ _ _ _))]; rfl
      have m42 : V2.cell? ⟨g4, 0, none⟩ = some (.slice adp (st (k + 1)).pay.length capp) := by rw [hv2.cellAt (get3b (q := 4) (by rw [List.getElem?_set_ne (by decide)]; rw [List.getElem?_set_ne (by decide)]; exact HX4.out _ _ _ _))]; rfl
      have m62 : V2.cell? ⟨g6, 0, none⟩ = some (.bool true) := by rw [hv2.cellAt (get3b (q := 6) (by rw [List.getElem?_set_ne (by decide)]; rw [List.getElem?_set_ne (by decide)]; exact HX6.out _ _ _ _))]; rfl
      have m43 : V3.cell? ⟨g4, 0, none⟩ = some (.slice adp (st (k + 1)).pay.length capp) := by rw [hv3.cellAt (b := g4) (cs := #[.slice adp (st (k + 1)).pay.length capp]) (T := 30) (get3b (q := 4) rfl)]; rfl
      have m63 : V3.cell? ⟨g6, 0, none⟩ = some (.bool true) := by rw [hv3.cellAt (b := g6) (cs := #[.bool true]) (T := 4) (get3b (q := 6) rfl)]; rfl
      obtain ⟨hd1, hd2⟩ := held_drop hv3 (.deferred none)
      have HK := hide (held_get hv3).2
      have e1 := hd1.cellAt (b := g1) (cs := #[.slice adp (st (k + 1)).pay.length capp]) (T := 30) (q := (M.set j (.logv l p { g with segs := (st (k + 1)).segs, next := (st (k + 1)).next } (.slice ad n cap))).length + 1) (by rw [get_tail]; rfl) 0
      have e2 := hd1.cellAt (b := g2) (cs := #[.bool true]) (T := 4) (q := (M.set j (.logv l p { g with segs := (st (k + 1)).segs, next := (st (k + 1)).next } (.slice ad n cap))).length + 2) (by rw [get_tail]; rfl) 0
      have e3 := hd1.cellAt (b := g3) (cs := #[.int .i64 0]) (T := 24) (q := (M.set j (.logv l p { g with segs := (st (k + 1)).segs, next := (st (k + 1)).next } (.slice ad n cap))).length + 3) (by rw [get_tail]; rfl) 0
      have HD1 := hide (HFIN.out _ _ _ (hd1.keep1 (n := 8) (x := .row 9 (.slice adp (st (k + 1)).pay.length capp) ((st (k + 1)).pay.map encStr)) rfl))
      have HBD := hide (((hvb0.trans hvb1).trans hvb2).trans (hvb3.trans hd2))
      have HE1 := hide e1
      have HE2 := hide e2
      have HE3 := hide e3
      have M41 := hide m41
      have M61 := hide m61
      have M42 := hide m42
      have M62 := hide m62
      have M43 := hide m43
      have M63 := hide m63
      have HV0 := hide hV0
      have HRE := hide hRE
      clear hl hb hv0 hv1 hv2 hv3 hvb0 hvb1 hvb2 hvb3 hd1 hd2 e1 e2 e3 m41 m61 m42 m62 m43 m63 hV0 hRE t1 t1' t2 t2' t3 t3' t4 t6
      refine wp_region_noPanic ?_
      refine wp_region_held_drew (S := fun wx => wx.cell? ⟨g4, 0, none⟩ = some (.slice adp (st (k + 1)).pay.length capp) ∧ wx.cell? ⟨g6, 0, none⟩ = some (.bool true)) (by kernel_rfl) (by rw [HV0.out]; exact ⟨m40, m60⟩) (fun hHeld => ?_)
      rw [HV0.out] at hHeld ⊢
      refine tH 0 (some 82) (.slice adp (st (k + 1)).pay.length capp) rfl (fun w hw => by have hw1 := hw.1; first | rfl | (go_simp; done) | (go_simp; rfl)) hHeld ?_
      simp only [Act.put, pA, pB, pC]
      refine tH 1 (some 83) (.bool true) rfl (fun w hw => by have hw1 := hw.2; first | rfl | (go_simp; done) | (go_simp; rfl)) hHeld ?_
      simp only [Act.put, pA, pB, pC]
      refine rdH 2 rfl (fun K hK => ?_)
      go_simp
      try rw [hV1]
      refine hK.out _ _ (⟨M41.out, M61.out⟩) (fun hH => ?_)
      clear hK K hHeld
      have hHeld := hH
      clear hH
      refine rdH 3 rfl (fun K hK => ?_)
      go_simp
      try rw [hV2]
      refine hK.out _ _ (⟨M42.out, M62.out⟩) (fun hH => ?_)
      clear hK K hHeld
      have hHeld := hH
      clear hH
      refine rdH 4 rfl (fun K hK => ?_)
      go_simp
      try rw [hV3]
      refine hK.out _ _ (⟨M43.out, M63.out⟩) (fun hH => ?_)
      clear hK K hHeld
      have hHeld := hH
      clear hH
      refine ⟨by kernel_rfl, ?_⟩
      refine NoPanic.normal ?_
      go_wp2
      simp only [Exit.noGoto_ret]
      refine ⟨by simp, .inl ⟨_, _, rfl, run_takeDeferred HK.out, ?_⟩⟩
      have E1 := HE1.out
      have E2 := HE2.out
      have E3 := HE3.out
      have hro : rdOut n R = ((st (k + 1)).pay, true, 0) := by
        rw [HRE.out]; unfold rdOut
        rw [if_neg (by rintro ⟨h1, h2⟩; simp only at h1 h2; omega)]
        exact Prod.ext rfl (Prod.ext hTB rfl)
      refine ⟨.tuple #[.slice adp (st (k + 1)).pay.length capp, .bool true, .int .i64 0], by simp [results, Tryz.f34, go_sem, E1, E2, E3], _, by rw [hro], ?_, HBD.out⟩
      rw [hro, HRE.out]
      exact HD1.out
end
end Go.Proofs.YtdffmmiegpndkaaGreatDoor
