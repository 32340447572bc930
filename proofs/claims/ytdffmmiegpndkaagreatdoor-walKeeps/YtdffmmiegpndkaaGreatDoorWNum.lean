import Derived.Test.YtdffmmiegpndkaaGreatDoorWFile
import Derived.Test.YtdffmmiegpndkaaGreatDoorFScan
import Derived.Test.YtdffmmiegpndkaaGreatDoorWIter
/-
  syncAll: one file behind the other, as far as the disk lets.
-/
namespace Go.Proofs.YtdffmmiegpndkaaGreatDoor
open Go.RowKit Go.Maps
set_option linter.unusedVariables false
attribute [local go_sem] Oper.semAt_some
def AD.syncs (A : AD) : List Key → Int × AD
  | [] => (0, A)
  | f :: r => if (A.sync f).1 ≠ 0 then A.sync f else (A.sync f).2.syncs r
def AL.files (g : AL) : List Key := g.segs.map (fun s => fileL g.name.data.toList s.num)
def AL.fileAt (g : AL) (k : Nat) : ByteArray := fileB g.name (g.segs.getD k ⟨0, 0, 0⟩).num
theorem AL.fileAt_list (g : AL) (k : Nat) (h : k < g.segs.length) : g.files[k]? = some (g.fileAt k).data.toList := by
  unfold AL.files AL.fileAt
  rw [List.getElem?_map, List.getElem?_eq_getElem h, List.getD_eq_getElem?_getD, List.getElem?_eq_getElem h]
  rfl
theorem hset_keep {α : Type} {L : List α} {j : Nat} {x : α} (h : L[j]? = some x) : L.set j x = L := by
  obtain ⟨hl, rfl⟩ := List.getElem?_eq_some_iff.1 h
  exact List.set_getElem_self hl
/-- What is asked of a log. -/
structure AL.Ok (g : AL) : Prop where
  name : g.name.size ≤ 24
  nums : ∀ s ∈ g.segs, 0 ≤ s.num ∧ s.num ≤ 10000000
  len : g.segs.length ≤ 10000000
theorem AL.Ok.num {g : AL} (h : g.Ok) (k : Nat) : 0 ≤ (g.segs.getD k ⟨0, 0, 0⟩).num ∧ (g.segs.getD k ⟨0, 0, 0⟩).num ≤ 10000000 := by
  rw [List.getD_eq_getElem?_getD]
  cases hq : g.segs[k]? with
  | none => exact ⟨by show (0 : Int) ≤ 0; omega, by show (0 : Int) ≤ 10000000; omega⟩
  | some s => exact h.nums s (List.mem_of_getElem? hq)
section
variable {B : Nat} {w : World} {L : List Item} {j l p : Nat} {g : AL} {v : Value}
/-- What the iterator reads, out of the log and its box. -/
theorem view_of {ad : Option Addr} {cap b off bx : Nat} {r : Option Nat} (hat : LogAt w l p g (.slice ad g.segs.length cap) r) (had : 0 < g.segs.length → ad = some ⟨b, off, none⟩) (hb : w.cell? ⟨bx, 0, none⟩ = some (.pointer (some ⟨l, 0, none⟩))) : View bx l ad b off g.segs.length cap (fun k => (g.segs.getD k ⟨0, 0, 0⟩).num) w := by
  refine ⟨hb, hat.c3, fun k hk => ?_⟩
  obtain ⟨ad', cap', hv, hle, hrow⟩ := hat.row
  cases hv
  have ha := had (by omega)
  subst ha
  rcases hrow with ⟨h1, _⟩ | ⟨b', off', h1, _, hbl, hc, _⟩
  · cases h1
  · cases h1
    have e : ∀ j, j < 3 → w.cell? ⟨b, off + k * 3 + j, none⟩ = (g.segs[k]).cs[j]? := fun j hj => by
      rw [show off + k * 3 + j = off + (3 * k + j) by omega, hc (3 * k + j) (by omega), cellsG_get _ _ hk _ hj]
    have hd : g.segs.getD k ⟨0, 0, 0⟩ = g.segs[k] := by rw [List.getD_eq_getElem?_getD, List.getElem?_eq_getElem hk]; rfl
    exact ⟨g.segs[k].size, g.segs[k].fin, by rw [hd]; exact e 0 (by omega), e 1 (by omega), e 2 (by omega)⟩
/-- The form of a log's slice. -/
theorem form_of {r : Option Nat} (h : LogAt w l p g v r) : ∃ ad cap b off, v = .slice ad g.segs.length cap ∧ (0 < g.segs.length → ad = some ⟨b, off, none⟩) := by
  obtain ⟨ad, cap, hv, hle, hrow⟩ := h.row
  rcases hrow with ⟨h1, h2, _⟩ | ⟨b, off, h1, _⟩
  · exact ⟨ad, cap, 0, 0, hv, fun hp => by omega⟩
  · exact ⟨ad, cap, b, off, hv, fun _ => h1⟩
end
section
variable {B : Nat} {w : World} {L : List Item} {i j l p : Nat} {A : AD} {g : AL}
theorem hset_app {α : Type} {L M : List α} {j : Nat} (x : α) (h : j < L.length) : (L ++ M).set j x = L.set j x ++ M := by
  rw [List.set_append, if_pos h]
theorem syncs_step (A : AD) {fs : List Key} {k : Nat} {f : Key} (h : fs[k]? = some f) : A.syncs (fs.drop k) = if (A.sync f).1 ≠ 0 then A.sync f else (A.sync f).2.syncs (fs.drop (k + 1)) := by
  obtain ⟨hl, rfl⟩ := List.getElem?_eq_some_iff.1 h
  rw [List.drop_eq_getElem_cons hl]; rfl
set_option maxRecDepth 100000 in
set_option maxHeartbeats 8000000 in
theorem syncAll_any (h : Lies B w L) (hi : L[i]? = some (.disk p A)) (hj : L[j]? = some (.log l p g)) (hij : i ≠ j) (hg : g.Ok) (he : Env B w) :
    Calls Tryz.prog 37 #[.pointer (some ⟨l, 0, none⟩)] w fun e w' => e = .returned (.int .i64 (A.syncs g.files).1) ∧ Lies B w' (L.set i (.disk p (A.syncs g.files).2)) ∧ Below B w w' := by
  obtain ⟨v, hp⟩ := h.pin hj
  obtain ⟨M, hM⟩ : ∃ M, L.set j (.logv l p g v) = M := ⟨_, rfl⟩
  rw [hM] at hp
  have hMi : M[i]? = some (.disk p A) := by rw [← hM, List.getElem?_set_ne (fun e => hij e.symm)]; exact hi
  have hMj : M[j]? = some (.logv l p g v) := by rw [← hM, List.getElem?_set_self (List.getElem?_eq_some_iff.1 hj).1]
  obtain ⟨r, hat, hBl⟩ := hp.logv hMj
  obtain ⟨ad, cap, b, off, hv, had⟩ := form_of hat
  subst hv
  have HB0 := h.base
  have HFIN : Hid (∀ (X : AD) (W : World), Lies B W (M.set i (.disk p X)) → Lies B W (L.set i (.disk p X))) := fun X W hl => by
    have := hl.unpin (j := j) (by rw [List.getElem?_set_ne hij]; exact hMj)
    rw [← hM, List.set_comm _ _ hij, List.set_set, hset_keep hj] at this
    exact this
  obtain ⟨RS, hRS⟩ : ∃ R, A.syncs g.files = R := ⟨_, rfl⟩
  rw [hRS]
  -- the boxes
  obtain ⟨g0, hg0⟩ : ∃ x, w.heap.size = x := ⟨_, rfl⟩
  obtain ⟨w1, hw1⟩ : ∃ x, w.alloc (.cells #[.pointer (some ⟨l, 0, none⟩)] 29) = x := ⟨_, rfl⟩
  obtain ⟨hl1, hb1⟩ := hp.newCells #[.pointer (some ⟨l, 0, none⟩)] 29
  rw [hw1, hg0] at hl1
  rw [hw1] at hb1
  obtain ⟨g1, hg1⟩ : ∃ x, w1.heap.size = x := ⟨_, rfl⟩
  obtain ⟨w2, hw2⟩ : ∃ x, w1.alloc (.cells #[.int .i64 0] 24) = x := ⟨_, rfl⟩
  obtain ⟨hl2, hb2⟩ := hl1.newCells #[.int .i64 0] 24
  rw [hw2, hg1] at hl2
  rw [hw2] at hb2
  obtain ⟨g2, hg2⟩ : ∃ x, w2.heap.size = x := ⟨_, rfl⟩
  obtain ⟨w3, hw3⟩ : ∃ x, w2.alloc (.cells #[.pointer (some ⟨l, 0, none⟩)] 29) = x := ⟨_, rfl⟩
  obtain ⟨hl3, hb3⟩ := hl2.newCells #[.pointer (some ⟨l, 0, none⟩)] 29
  rw [hw3, hg2] at hl3
  rw [hw3] at hb3
  have hb3' := (hb1.trans hb2).trans hb3
  rw [List.append_assoc, List.append_assoc] at hl3
  rw [List.append_assoc] at hl2
  have z1 : w2.cell? ⟨g0, 0, none⟩ = some (.pointer (some ⟨l, 0, none⟩)) := by
    rw [hl2.cellAt (q := M.length + 0) (b := g0) (cs := #[.pointer (some ⟨l, 0, none⟩)]) (T := 29) (by rw [get_tail]; rfl)]; rfl
  obtain ⟨X3, hX3⟩ : ∃ X : Int → List Item, X = fun e => [.block g0 (.cells #[.pointer (some ⟨l, 0, none⟩)] 29 (0, 0)), .block g1 (.cells #[.int .i64 e] 24 (0, 0)), .block g2 (.cells #[.pointer (some ⟨l, 0, none⟩)] 29 (0, 0))] := ⟨_, rfl⟩
  have hl3' : Lies B w3 (M ++ X3 0) := by rw [hX3]; exact hl3
  have HX0 : Hid (∀ e, (X3 e)[0]? = some (.block g0 (.cells #[.pointer (some ⟨l, 0, none⟩)] 29 (0, 0)))) := fun e => by rw [hX3]; rfl
  have HX1 : Hid (∀ e, (X3 e)[1]? = some (.block g1 (.cells #[.int .i64 e] 24 (0, 0)))) := fun e => by rw [hX3]; rfl
  have HX2 : Hid (∀ e, (X3 e)[2]? = some (.block g2 (.cells #[.pointer (some ⟨l, 0, none⟩)] 29 (0, 0)))) := fun e => by rw [hX3]; rfl
  have HXs : Hid (∀ e e' : Int, (X3 e).set 1 (.block g1 (.cells (#[Value.int .i64 e].setIfInBounds 0 (.int .i64 e')) 24 (0, 0))) = X3 e') := fun e e' => by rw [hX3]; rfl
  have HL3 := hide hl3'
  have HB3 := hide hb3'
  have HE := hide he
  have HG := hide hg
  have HAD := hide had
  have HMi := hide hMi
  have HMj := hide hMj
  have HIJ := hide hij
  have HRS := hide hRS
  clear h hi hj hp hat hl1 hl2 hl3 hl3' hb1 hb2 hb3 hb3' he hg had hM hMi hMj hij hX3 HB0 hBl hRS
  refine (callsIn_wide (n := 6)).1 ?_
  refine callsIn_of_wp_marks Tryz.func37 rfl trivial ?_ rfl
  simp only [Tryz.ntmps37, List.size_toArray, List.length_cons, List.length_nil, Nat.reduceAdd, Nat.reduceSub, Array.replicate_succ, Array.replicate_zero, List.push_toArray, List.append_toArray, List.nil_append, List.cons_append]
  have f38 : Fence.wide.fn 31 := trivial
  have hio : Calls Tryz.prog 31 #[.pointer (some ⟨l, 0, none⟩)] w2 fun e w' => e = .returned (.func (.func 55) #[] #[.pointer (some ⟨g2, 0, none⟩)]) ∧ w' = w3 := by
    have := inOrder_any l w2
    rw [hg2, hw3] at this
    exact this
  have HIO := hide hio
  clear hio
  gi_wp2_with (gi_at_call 31; refine ((callsIn_wide (n := _)).2 HIO.out).mono ?_; rintro e w' ⟨rfl, hw⟩; obtain rfl := hw.symm)
  clear HIO hw3 hw2 hw1 hg2 hg1 hg0 z1 f38
  obtain ⟨D, hD⟩ : ∃ D, w3.heap.size = D := ⟨_, rfl⟩
  refine wp_rangeFunc_held 6 (by omega) (gf := 55) (lb := #[.pointer (some ⟨g2, 0, none⟩)]) rfl (enters_of Tryz.func55 (by kernel_rfl) rfl) (encs b off g.fileAt) g.segs.length (fun _ => rfl)
    (fun ob k W => ∃ Ak : AD, RS = Ak.syncs (g.files.drop k) ∧ Lies B W ((M.set i (.disk p Ak) ++ X3 0) ++ [.block w3.heap.size (.deferred (some [])), .block (w3.heap.size + 1) ob]) ∧ Below B w W)
    (fun c ob W => c = .ret ∧ Lies B W ((M.set i (.disk p RS.2) ++ X3 RS.1) ++ [.block w3.heap.size (.deferred (some [])), .block (w3.heap.size + 1) ob]) ∧ Below B w W)
    (fun ob k W ⟨Ak, _, hl, _⟩ => held_get hl)
    (fun ob ob' k W ⟨Ak, hs, hl, hb⟩ => ⟨Ak, hs, (held_put ob' hl).1, hb.trans (held_put ob' hl).2⟩)
    (fun c ob W ⟨_, hl, _⟩ => held_get hl)
    (fun c ob ob' W ⟨hc, hl, hb⟩ => ⟨hc, (held_put ob' hl).1, hb.trans (held_put ob' hl).2⟩)
    (fun ob => ⟨A, by rw [List.drop_zero]; exact HRS.out.symm, by rw [hset_keep HMi.out]; exact (held_new HL3.out _ _).1, HB3.out.trans (held_new HL3.out _ _).2⟩)
    ?seq
    (fun k => { tmps := #[.pointer (some ⟨l, 0, none⟩), .pointer (some ⟨g0, 0, none⟩), .pointer (some ⟨g1, 0, none⟩), undef, .string (g.fileAt k), undef, .pointer (some ⟨l, 0, none⟩), .func (.func 55) #[] #[.pointer (some ⟨g2, 0, none⟩)], .pointer (some ⟨b, off + k * 3, none⟩), .string (g.fileAt k), undef, undef, undef, undef, undef, undef, undef, undef, undef], defers := [] }) ?assign ?body ?done ?stop
  case seq =>
    intro ob Jx hY W h0
    refine iter_in 5 (w3.heap.size + 1) (by omega) g2 l b off g.segs.length cap ad HAD.out HG.out.len (fun k => (g.segs.getD k ⟨0, 0, 0⟩).num) g.fileAt _ Jx ?_ ?_ ?_ hY W h0
    · rintro k W ⟨Ak, _, hl, _⟩
      obtain ⟨r, hat, _⟩ := hl.logv (j := j) (get_head (get_head (by rw [List.getElem?_set_ne HIJ.out]; exact HMj.out)))
      refine view_of hat HAD.out ?_
      rw [Lies.cellAt (L := (M.set i (.disk p Ak) ++ X3 0) ++ _) (q := (M.set i (.disk p Ak)).length + 2) hl (get_head (by rw [get_tail]; exact HX2.out 0))]; rfl
    · rintro k W W' ⟨Ak, hs, hl, hb⟩ hb'
      exact ⟨Ak, hs, hl.below hb', hb.trans (hb'.mono hl.base)⟩
    · rintro k W z f hk ⟨Ak, _, hl, hb⟩
      obtain ⟨r, hat, hBl⟩ := hl.logv (j := j) (get_head (get_head (by rw [List.getElem?_set_ne HIJ.out]; exact HMj.out)))
      exact file_any l _ z f g.name W hat.c1 (lt_of_some hat.cells) HG.out.name (HG.out.num k).1 (HG.out.num k).2 (HE.out.below hb) hl.base
  case assign =>
    intro k W K hK
    unfold encs
    gi_wp2
    exact hK
  case body =>
    rintro ob k W hk ⟨Ak, hs, hl, hb⟩
    have hf := g.fileAt_list k hk
    have hMi' : (M.set i (.disk p Ak))[i]? = some (.disk p Ak) := List.getElem?_set_self (List.getElem?_eq_some_iff.1 HMi.out).1
    obtain ⟨E, hE⟩ : ∃ E, (Ak.sync (g.fileAt k).data.toList).1 = E := ⟨_, rfl⟩
    obtain ⟨A2, hA2⟩ : ∃ X, (Ak.sync (g.fileAt k).data.toList).2 = X := ⟨_, rfl⟩
    have hc := s_sync hl (get_head (get_head hMi')) (g.fileAt k) (by have := fileB_size (b := g.name) HG.out.name (HG.out.num k).1 (HG.out.num k).2; unfold AL.fileAt maxLen; omega)
    rw [hE, hA2, hset_app _ (by rw [List.length_append, List.length_set]; have := (List.getElem?_eq_some_iff.1 HMi.out).1; omega), hset_app _ (by rw [List.length_set]; exact (List.getElem?_eq_some_iff.1 HMi.out).1), List.set_set] at hc
    have hst := syncs_step Ak hf
    rw [hE, hA2, show Ak.sync (g.fileAt k).data.toList = (E, A2) by rw [← hE, ← hA2], ← hs] at hst
    have c0 : W.cell? ⟨g0, 0, none⟩ = some (.pointer (some ⟨l, 0, none⟩)) := by
      rw [Lies.cellAt (L := (M.set i (.disk p Ak) ++ X3 0) ++ _) (q := (M.set i (.disk p Ak)).length + 0) hl (get_head (by rw [get_tail]; exact HX0.out 0))]; rfl
    obtain ⟨r, hat, _⟩ := hl.logv (j := j) (get_head (get_head (by rw [List.getElem?_set_ne HIJ.out]; exact HMj.out)))
    have cl := hat.c0
    have HC := hide hc
    have HST := hide hst
    have HBW := hide hb
    have f9 : Fence.wide.fn 50 := trivial
    clear hc hst hb hs hl hat hE hA2 hf hMi'
    gi_wp2_with fail
    refine (CallsIn.inRound _ ((callsIn_wide (n := _)).2 HC.out)).mono ?_
    rintro e W2 ⟨rfl, h2, hb2⟩
    have H2 := hide h2
    have HB2 := hide (HBW.out.trans hb2)
    by_cases e0 : E = 0
    · subst e0
      have HS2 : Hid (RS = A2.syncs (g.files.drop (k + 1))) := HST.out
      clear h2 hb2 HC HST HBW
      gi_wp2
      exact ⟨A2, HS2.out, H2.out, HB2.out⟩
    · have HE2 : Hid (RS = (E, A2)) := by
        show _ = _
        rw [HST.out, if_pos e0]
      have b1 : (E == 0) = false := beq_eq_false_iff_ne.2 e0
      have b1' : (E != 0) = true := by unfold bne; rw [b1]; rfl
      have q1 : ((M.set i (.disk p A2) ++ X3 0) ++ [Item.block w3.heap.size (.deferred (some [])), Item.block (w3.heap.size + 1) ob])[(M.set i (.disk p A2)).length + 1]? = some (.block g1 (.cells #[.int .i64 0] 24 (0, 0))) := get_head (by rw [get_tail]; exact HX1.out 0)
      have z1 : W2.cell? ⟨g1, 0, none⟩ = some (.int .i64 0) := by rw [h2.cellAt q1]; rfl
      have z2 : W2.frozen? ⟨g1, 0, none⟩ = false := h2.frozenAt q1 0
      have hset := h2.setAt q1 0 (.int .i64 E)
      rw [hset_app _ (by rw [List.length_append]; have := (List.getElem?_eq_some_iff.1 (HX1.out 0)).1; omega), List.set_append_right _ _ (by omega), Nat.add_sub_cancel_left, HXs.out] at hset
      have HSET := hide hset
      clear h2 hb2 HC HST HBW q1 hset e0
      gi_wp2
      refine ⟨rfl, ?_, HB2.out.trans HSET.out.2⟩
      rw [HE2.out]
      exact HSET.out.1
  case done =>
    rintro ob W ⟨Ak, hs, hl, hb⟩
    have hRE : RS = (0, Ak) := by
      rw [hs, List.drop_of_length_le (by unfold AL.files; rw [List.length_map]; exact Nat.le_refl _)]; rfl
    have q1 : ((M.set i (.disk p Ak) ++ X3 0) ++ [Item.block w3.heap.size (.deferred (some [])), Item.block (w3.heap.size + 1) ob])[(M.set i (.disk p Ak)).length + 1]? = some (.block g1 (.cells #[.int .i64 0] 24 (0, 0))) := get_head (by rw [get_tail]; exact HX1.out 0)
    have z1 : W.cell? ⟨g1, 0, none⟩ = some (.int .i64 0) := by rw [hl.cellAt q1]; rfl
    have z2 : W.frozen? ⟨g1, 0, none⟩ = false := hl.frozenAt q1 0
    have hset := hl.setAt q1 0 (.int .i64 0)
    rw [hset_app _ (by rw [List.length_append]; have := (List.getElem?_eq_some_iff.1 (HX1.out 0)).1; omega), List.set_append_right _ _ (by omega), Nat.add_sub_cancel_left, HXs.out] at hset
    obtain ⟨hd1, hd2⟩ := held_drop hset.1 (.deferred none)
    have hK := (held_get hset.1).2
    have hc5 := hd1.cellAt (q := (M.set i (.disk p Ak)).length + 1) (b := g1) (cs := #[.int .i64 0]) (T := 24) (by rw [get_tail]; exact HX1.out 0) 0
    have HD1 := hide (HFIN.out _ _ (Lies.drop (M := X3 0) hd1))
    have HBD := hide ((hb.trans hset.2).trans hd2)
    have HK := hide hK
    have HC5 := hide hc5
    have HRE := hide hRE
    clear hs hl hb hRE q1 hset hd1 hd2 hK hc5
    gi_wp2
    refine ⟨by simp, .inl ⟨_, _, rfl, run_takeDeferred HK.out, ?_⟩⟩
    refine ⟨.int .i64 0, ?_, ?_⟩
    · have hc5 := HC5.out
      simp at hc5
      simp [results, Tryz.f37, go_sem, hc5]
    · rw [HRE.out]
      exact ⟨rfl, HD1.out, HBD.out⟩
  case stop =>
    rintro c ob W ⟨rfl, hl, hb⟩
    obtain ⟨hd1, hd2⟩ := held_drop hl (.deferred none)
    have hK := (held_get hl).2
    have hc5 := hd1.cellAt (q := (M.set i (.disk p RS.2)).length + 1) (b := g1) (cs := #[.int .i64 RS.1]) (T := 24) (by rw [get_tail]; exact HX1.out _) 0
    have HD1 := hide (HFIN.out _ _ (Lies.drop (M := X3 RS.1) hd1))
    have HBD := hide (hb.trans hd2)
    have HK := hide hK
    have HC5 := hide hc5
    clear hl hb hd1 hd2 hK hc5
    gi_wp2
    refine ⟨by simp, .inl ⟨_, _, rfl, run_takeDeferred HK.out, ?_⟩⟩
    refine ⟨.int .i64 RS.1, ?_, ?_⟩
    · have hc5 := HC5.out
      simp at hc5
      simp [results, Tryz.f37, go_sem, hc5]
    · exact ⟨rfl, HD1.out, HBD.out⟩
end
end Go.Proofs.YtdffmmiegpndkaaGreatDoor
/-
  READING A LOG, PLAIN: the frames of a file, one file behind the other.
-/
namespace Go.Proofs.YtdffmmiegpndkaaGreatDoor
open Go.RowKit
set_option linter.unusedVariables false
def scanF : Nat → Key → Int → List Key × Key
  | 0, t, _ => ([], t)
  | f + 1, t, n => match Fr.wholeT t n with
    | some p => (p :: (scanF f (t.drop (Fr.room p.length)) (n + 1)).1, (scanF f (t.drop (Fr.room p.length)) (n + 1)).2)
    | none => ([], t)
def scanA (t : Key) (n : Int) : List Key × Key := scanF t.length t n
theorem scanF_of : ∀ {ps : List Key} {t t' : Key} {n : Int} (f : Nat), Fr.Told t n ps t' → Fr.wholeT t' (n + ps.length) = none → t.length ≤ f → scanF f t n = (ps, t')
  | [], t, t', n, f, h, hn, _ => by
    have e : t' = t := h
    subst e
    simp only [List.length_nil, Int.natCast_zero, Int.add_zero] at hn
    cases f with
    | zero => rfl
    | succ f => show (match Fr.wholeT t' n with | some p => _ | none => ([], t')) = _; rw [hn]
  | p :: ps, t, t', n, f, h, hn, hf => by
    have hl := h.1.len
    have hr := Fr.room_ge p.length
    rw [List.length_cons, show n + ((ps.length + 1 : Nat) : Int) = n + 1 + (ps.length : Int) by omega] at hn
    cases f with
    | zero => omega
    | succ f =>
      have ih := scanF_of f h.2 hn (by rw [List.length_drop]; omega)
      show (match Fr.wholeT t n with | some p => _ | none => ([], t)) = _
      rw [Fr.wholeT_some.2 h.1]
      simp only
      rw [ih]
theorem scanA_of {t t' : Key} {n : Int} {ps : List Key} (h : Fr.Found t n ps t') : scanA t n = (ps, t') := scanF_of _ h.told h.none (Nat.le_refl _)
structure RSt where
  pay : List Key
  next : Int
  segs : List ASeg
  torn : Bool
def textOf (A : AD) (nm : Key) (n : Int) : Key := (A.read (fileL nm n) 0 1048576).1
def rdStep (A : AD) (nm : Key) (s : RSt) (k : Nat) : RSt :=
  let q := s.segs.getD k ⟨0, 0, 0⟩
  let t := textOf A nm q.num
  let nx := if s.pay = [] then firstN t else s.next
  let r := scanA t nx
  ⟨s.pay ++ r.1, nx + r.1.length, s.segs.set k ⟨q.num, ((t.length - r.2.length : Nat) : Int), nx + r.1.length⟩, !r.2.isEmpty⟩
def rdK (A : AD) (nm : Key) (s : RSt) : Nat → RSt
  | 0 => s
  | k + 1 => rdStep A nm (rdK A nm s k) k
/-- Up to the first file that something else stands behind: how many, and what is known then. -/
def rdFin (A : AD) (nm : Key) (s : RSt) : Nat → Nat → Nat × RSt
  | 0, k => (k, rdK A nm s k)
  | f + 1, k => if (rdK A nm s (k + 1)).torn then (k + 1, rdK A nm s (k + 1)) else rdFin A nm s f (k + 1)
theorem rdFin_at {A : AD} {nm : Key} {s : RSt} {N : Nat} : ∀ {k : Nat}, k ≤ N → (∀ q, 0 < q → q ≤ k → (rdK A nm s q).torn = false) → rdFin A nm s N 0 = rdFin A nm s (N - k) k
  | 0, _, _ => rfl
  | k + 1, hk, h => by
    rw [rdFin_at (k := k) (by omega) (fun q h0 hq => h q h0 (by omega)), show N - k = (N - (k + 1)) + 1 by omega]
    show (if (rdK A nm s (k + 1)).torn then _ else _) = _
    rw [h (k + 1) (by omega) (Nat.le_refl _)]
    rfl
theorem rdFin_stop {A : AD} {nm : Key} {s : RSt} {N k : Nat} (hk : k < N) (h : ∀ q, 0 < q → q ≤ k → (rdK A nm s q).torn = false) (ht : (rdK A nm s (k + 1)).torn = true) : rdFin A nm s N 0 = (k + 1, rdK A nm s (k + 1)) := by
  rw [rdFin_at (k := k) (by omega) h, show N - k = (N - (k + 1)) + 1 by omega]
  show (if (rdK A nm s (k + 1)).torn then _ else _) = _
  rw [ht]
  rfl
theorem rdFin_all {A : AD} {nm : Key} {s : RSt} {N : Nat} (h : ∀ q, 0 < q → q ≤ N → (rdK A nm s q).torn = false) : rdFin A nm s N 0 = (N, rdK A nm s N) := by
  rw [rdFin_at (k := N) (Nat.le_refl _) h, Nat.sub_self]
  rfl
theorem rdK_len (A : AD) (nm : Key) (s : RSt) : ∀ k, (rdK A nm s k).segs.length = s.segs.length
  | 0 => rfl
  | k + 1 => by
    show ((rdK A nm s k).segs.set k _).length = _
    rw [List.length_set, rdK_len A nm s k]
theorem rdK_num (A : AD) (nm : Key) (s : RSt) (q : Nat) : ∀ k, ((rdK A nm s k).segs.getD q ⟨0, 0, 0⟩).num = (s.segs.getD q ⟨0, 0, 0⟩).num
  | 0 => rfl
  | k + 1 => by
    rw [← rdK_num A nm s q k]
    show (((rdK A nm s k).segs.set k _).getD q ⟨0, 0, 0⟩).num = _
    rw [List.getD_eq_getElem?_getD, List.getD_eq_getElem?_getD]
    by_cases e : k = q
    · subst e
      by_cases hl : k < (rdK A nm s k).segs.length
      · rw [List.getElem?_set_self hl]
        simp only [Option.getD_some]
        rw [List.getD_eq_getElem?_getD]
      · rw [List.set_eq_of_length_le (by omega), ← List.getD_eq_getElem?_getD]
    · rw [List.getElem?_set_ne e, ← List.getD_eq_getElem?_getD]
theorem text_len {A : AD} (nm : Key) (n : Int) : (textOf A nm n).length ≤ 1048576 := by
  unfold textOf AD.read
  split
  · simp
  · split
    · simp
    · split
      · simp
      · simp only [List.length_take]
        exact Nat.min_le_left _ _
theorem scan_few' {t : Key} {n : Int} : 64 * (scanA t n).1.length ≤ t.length := by
  unfold scanA
  generalize hf : t.length = f
  have : ∀ f t n, 64 * (scanF f t n).1.length ≤ t.length := by
    intro f
    induction f with
    | zero => intro t n; simp [scanF]
    | succ f ih =>
      intro t n
      show 64 * (match Fr.wholeT t n with | some p => (p :: (scanF f (t.drop (Fr.room p.length)) (n + 1)).1, (scanF f (t.drop (Fr.room p.length)) (n + 1)).2) | none => ([], t)).1.length ≤ _
      cases hw : Fr.wholeT t n with
      | none => simp
      | some p =>
        simp only [List.length_cons]
        have h1 := (Fr.wholeT_some.1 hw).len
        have h2 := Fr.room_ge p.length
        have h3 := ih (t.drop (Fr.room p.length)) (n + 1)
        rw [List.length_drop] at h3
        omega
  rw [← hf]
  exact this _ _ _
theorem firstN_range (t : Key) : -1 ≤ firstN t ∧ firstN t < 1152921504606846976 := by
  unfold firstN
  split
  · omega
  · split
    · omega
    · omega
/-- How great the numbers may be. -/
theorem rdK_range (A : AD) (nm : Key) (s : RSt) (h0 : s.pay = []) (hn : s.next = 0) : ∀ k, (-1 ≤ (rdK A nm s k).next ∧ (rdK A nm s k).next ≤ 1152921504606846976 + 16384 * (k : Int)) ∧ (rdK A nm s k).pay.length ≤ 16384 * k
  | 0 => by
    show (-1 ≤ s.next ∧ s.next ≤ _) ∧ s.pay.length ≤ _
    rw [hn, h0]
    simp
  | k + 1 => by
    have ih := rdK_range A nm s h0 hn k
    show (-1 ≤ (rdStep A nm (rdK A nm s k) k).next ∧ (rdStep A nm (rdK A nm s k) k).next ≤ _) ∧ (rdStep A nm (rdK A nm s k) k).pay.length ≤ _
    unfold rdStep
    simp only
    have hs := @scan_few' (textOf A nm ((rdK A nm s k).segs.getD k ⟨0, 0, 0⟩).num) (if (rdK A nm s k).pay = [] then firstN (textOf A nm ((rdK A nm s k).segs.getD k ⟨0, 0, 0⟩).num) else (rdK A nm s k).next)
    have ht := text_len (A := A) nm ((rdK A nm s k).segs.getD k ⟨0, 0, 0⟩).num
    have hf := firstN_range (textOf A nm ((rdK A nm s k).segs.getD k ⟨0, 0, 0⟩).num)
    rw [List.length_append]
    generalize (scanA (textOf A nm ((rdK A nm s k).segs.getD k ⟨0, 0, 0⟩).num) _).1.length = q at hs ⊢
    refine ⟨?_, by omega⟩
    split <;> omega
end Go.Proofs.YtdffmmiegpndkaaGreatDoor
/-
  The number of a file's name.
-/
namespace Go.Proofs.YtdffmmiegpndkaaGreatDoor
open Go.RowKit Go.Maps
set_option linter.unusedVariables false
theorem cut_any (s p : ByteArray) (w : World) : Calls Tryz.prog 77 #[.string s, .string p] w fun e w' => e = .returned (.tuple #[.string ⟨(Lib.trimPrefix s.data.toList p.data.toList).toArray⟩, .bool (Lib.hasPrefix s.data.toList p.data.toList)]) ∧ w' = w :=
  Any.strings_CutPrefix Tryz.laysCutPrefix s p w
set_option maxRecDepth 100000 in
set_option maxHeartbeats 800000 in
theorem number_any {B : Nat} (f nm : ByteArray) (w : World) (hf : f.size ≤ 100) (hnm : nm.size ≤ 24) (he : Env B w) (hB : B ≤ w.heap.size) :
    Calls Tryz.prog 57 #[.string f, .string nm] w fun e w' => ∃ x, e = .returned (.tuple #[.int .i64 x, .bool (numOf f.data.toList nm.data.toList).isSome]) ∧ (∀ v, numOf f.data.toList nm.data.toList = some v → x = v) ∧ Below w.heap.size w w' := by
  obtain ⟨Z, hZ⟩ : ∃ Z : ByteArray, nm ++ (⟨#[46]⟩ : ByteArray) = Z := ⟨_, rfl⟩
  have hadd : ∀ w : World, (Op.stringOp .add nm ⟨#[46]⟩).run Tryz.prog w = .ok (.string Z) w := fun w => by rw [← hZ]; exact run_string_add_sum w nm ⟨#[46]⟩ (by show nm.size + 1 ≤ _; omega)
  have hpl : Z.data.toList = nm.data.toList ++ [46] := by
    rw [← hZ]
    have e : nm = ⟨nm.data.toList.toArray⟩ := rfl
    conv => lhs; rw [e, show (⟨#[46]⟩ : ByteArray) = ⟨[46].toArray⟩ from rfl, ByteArray.mk_append_mk]
  obtain ⟨D, hD⟩ : ∃ D : ByteArray, D = ⟨(Lib.trimPrefix f.data.toList (nm.data.toList ++ [46])).toArray⟩ := ⟨_, rfl⟩
  obtain ⟨b, hb⟩ : ∃ b, Lib.hasPrefix f.data.toList (nm.data.toList ++ [46]) = b := ⟨_, rfl⟩
  have HD := hide hD
  have HBb := hide hb
  have HPL := hide hpl
  have HE := hide he
  have hDs : D.size ≤ 100 := by
    have e : D.size = (Lib.trimPrefix f.data.toList (nm.data.toList ++ [46])).length := by rw [hD]; show (List.toArray _).size = _; rw [List.size_toArray]
    rw [e]
    unfold Lib.trimPrefix
    split
    · rw [List.length_drop, str_len]; omega
    · rw [str_len]; exact hf
  have HDl : Hid (b = true → D.data.toList = f.data.toList.drop (nm.data.toList.length + 1)) := fun hbt => by
    rw [hD]
    show Lib.trimPrefix _ _ = _
    unfold Lib.trimPrefix
    rw [hb, hbt, if_pos rfl, List.length_append]
    rfl
  clear he hD hb hpl hZ
  go_enter Tryz.func57, Tryz.ntmps57
  go_wp2_with fail
  refine (cut_any f Z _).mono ?_
  rintro e w1 ⟨rfl, rfl⟩
  rw [HPL.out, ← HD.out, HBb.out]
  go_wp2_with fail
  refine (atoi_any D (by omega) _ HE.out).mono ?_
  rintro e w2 ⟨x, ev, rfl, hev, hb2⟩
  have HB2 := hide hb2
  clear hb2
  cases b with
  | false =>
    have HN : Hid (numOf f.data.toList nm.data.toList = none) := by show _ = _; unfold numOf; rw [HBb.out]; rfl
    rcases hev with ⟨rfl, _⟩ | ⟨⟨t, p, rfl⟩, _⟩ <;>
    · go_wp2
      go_ret2
      refine ⟨0, ?_, fun v hv => ?_, HB2.out⟩
      · rw [HN.out]; rfl
      · rw [HN.out] at hv; cases hv
  | true =>
    rcases hev with ⟨rfl, hok⟩ | ⟨⟨t, p, rfl⟩, hno⟩
    · rw [HDl.out rfl] at hok
      by_cases h1 : x < 0
      · have HN : Hid (numOf f.data.toList nm.data.toList = none) := by
          show _ = _; unfold numOf; rw [HBb.out, if_pos rfl, hok]; show (if _ then _ else _) = _; rw [if_neg (by omega)]
        have hd : decide (x < 0) = true := decide_eq_true h1
        clear hok
        go_wp2
        go_ret2
        refine ⟨0, ?_, fun v hv => ?_, HB2.out⟩
        · rw [HN.out]; rfl
        · rw [HN.out] at hv; cases hv
      · have hd : decide (x < 0) = false := decide_eq_false h1
        by_cases h2 : 9999999 < x
        · have HN : Hid (numOf f.data.toList nm.data.toList = none) := by
            show _ = _; unfold numOf; rw [HBb.out, if_pos rfl, hok]; show (if _ then _ else _) = _; rw [if_neg (by omega)]
          have hd2 : decide (9999999 < x) = true := decide_eq_true h2
          clear hok
          go_wp2
          go_ret2
          refine ⟨0, ?_, fun v hv => ?_, HB2.out⟩
          · rw [HN.out]; rfl
          · rw [HN.out] at hv; cases hv
        · have hd2 : decide (9999999 < x) = false := decide_eq_false h2
          have HN : Hid (numOf f.data.toList nm.data.toList = if Lib.itoa x = D.data.toList then some x else none) := by
            show _ = _; unfold numOf; rw [HBb.out, if_pos rfl, hok, HDl.out rfl]
            show (if _ then _ else _) = _
            by_cases h3 : Lib.itoa x = f.data.toList.drop (nm.data.toList.length + 1)
            · rw [if_pos ⟨by omega, by omega, h3⟩, if_pos h3]
            · rw [if_neg (fun h => h3 h.2.2), if_neg h3]
          clear hok
          go_wp2_with fail
          refine (itoa_any x (by omega) (by omega) _ (HE.out.below (HB2.out.mono hB))).mono ?_
          rintro e w3 ⟨rfl, hb3⟩
          have HB3 := hide (HB2.out.trans (hb3.mono HB2.out.size))
          clear hb3
          go_wp2
          go_ret2
          refine ⟨x, ?_, fun v hv => ?_, HB3.out⟩
          · rw [HN.out]
            have hTL : (Lib.itoa x == D.toList) = (Lib.itoa x == D.data.toList) := by rw [ByteArray.toList_eq]
            by_cases h3 : Lib.itoa x = D.data.toList
            · rw [if_pos h3, hTL, beq_iff_eq.2 h3]; rfl
            · rw [if_neg h3, hTL, beq_eq_false_iff_ne.2 h3]; rfl
          · rw [HN.out] at hv
            split at hv
            · cases hv; rfl
            · cases hv
    · rw [HDl.out rfl] at hno
      have HN : Hid (numOf f.data.toList nm.data.toList = none) := by
        show _ = _; unfold numOf; rw [HBb.out, if_pos rfl]
        split
        · rename_i v hv; exact absurd hv (hno v)
        · rfl
      clear hno
      go_wp2
      go_ret2
      refine ⟨0, ?_, fun v hv => ?_, HB2.out⟩
      · rw [HN.out]; rfl
      · rw [HN.out] at hv; cases hv
end Go.Proofs.YtdffmmiegpndkaaGreatDoor
