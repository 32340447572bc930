/-
  DiskPlays: told; tools for lists of items.
-/
import Derived.Test.YtcmhfpiglacdaaaGreatRefCrash
namespace Go.Proofs.YtcmhfpiglacdaaaGreat
open Go.RowKit Go.Maps Go.WideMaps
set_option linter.unusedVariables false
set_option linter.unusedSimpArgs false
theorem get_push {α : Type} {L M : List α} {i : Nat} {x : α} (h : L[i]? = some x) : (L ++ M)[i]? = some x := by
  rw [List.getElem?_append_left (List.getElem?_eq_some_iff.1 h).1]; exact h
theorem get_last {α : Type} (L : List α) (x : α) : (L ++ [x])[L.length]? = some x := by simp
theorem get_set {α : Type} {L : List α} {i : Nat} {x : α} (h : L[i]? = some x) (y : α) : (L.set i y)[i]? = some y := List.getElem?_set_self (List.getElem?_eq_some_iff.1 h).1
theorem get_set_ne {α : Type} {L : List α} {i j : Nat} {x y : α} (h : L[j]? = some x) (hij : i ≠ j) : (L.set i y)[j]? = some x := by rw [List.getElem?_set_ne hij]; exact h
theorem dirty_len {A : AD} (h : A.Ok) (k : Key) : (A.dirtyI k).length ≤ maxLen := by
  unfold AD.dirtyI AD.dirty
  rw [List.length_map]
  split
  · exact Nat.zero_le _
  · cases hg : fget A.fs k with
    | none => exact Nat.zero_le _
    | some F => exact Nat.le_trans (AF.dirtyL_length (h.files _ (fget_mem hg))) (by unfold maxLen; omega)
theorem list_len {A : AD} (h : A.Ok) : A.list.length ≤ maxLen := by
  unfold AD.list
  split
  · exact Nat.zero_le _
  · unfold fkeys
    rw [List.length_map]
    exact Nat.le_trans h.few (by unfold maxLen; omega)
/-- Some of the items, in another order. -/
theorem Lies.pick {B : Nat} {w : World} {L M : List Item} (h : Lies B w L) (f : Nat → Nat) (hf : ∀ i j, i < M.length → j < M.length → f i = f j → i = j) (hM : ∀ i (x : Item), M[i]? = some x → L[f i]? = some x) : Lies B w M := by
  obtain ⟨hb, S, h1, h2, h3⟩ := h
  have lt : ∀ i, i < M.length → f i < L.length := fun i hi => (List.getElem?_eq_some_iff.1 (hM i M[i] (List.getElem?_eq_getElem hi))).1
  exact ⟨hb, fun i => S (f i), fun i x hi => h1 (f i) x (hM i x hi), fun i b hi hs => h2 (f i) b (lt i hi) hs, fun i j b hi hj hne => h3 (f i) (f j) b (lt i hi) (lt j hj) (fun e => hne (hf i j hi hj e))⟩
section
variable {B : Nat} {w : World} {L : List Item} {i j p r : Nat} {A : AD}
set_option maxRecDepth 5000 in
set_option maxHeartbeats 2000000 in
theorem told_any (h : Lies B w L) (hi : L[i]? = some (.disk p A)) (hj : L[j]? = some (.ref r A)) (s : ByteArray) (hs : s.size ≤ maxLen) :
    Calls Tryz.prog 27 #[.pointer (some ⟨p, 0, none⟩), .pointer (some ⟨r, 0, none⟩), .string s] w fun e w' => e = .returned (.bool true) ∧ Lies B w' L ∧ Below B w w' := by
  have hok := h.ok hi
  have hc := s_size h hi s hs
  have HI := hide hi
  have HJ := hide hj
  have HOK := hide hok
  have HH := hide h
  have HS := hide hs
  obtain ⟨dl, hdl⟩ : ∃ x, A.dirtyI s.data.toList = x := ⟨_, rfl⟩
  have HDL := hide hdl
  have hld : (dl.map (Value.int .i64)).length = dl.length := List.length_map ..
  have hdm : dl.length ≤ maxLen := by rw [← hdl]; exact dirty_len hok _
  have db : (dl == dl) = true := by simp
  obtain ⟨z1, hz1⟩ : ∃ x, (A.size s.data.toList).1 = x := ⟨_, rfl⟩
  obtain ⟨z2, hz2⟩ : ∃ x, (A.size s.data.toList).2 = x := ⟨_, rfl⟩
  obtain ⟨t1, ht1⟩ : ∃ x : ByteArray, (⟨(A.read s.data.toList 0 1048576).1.toArray⟩ : ByteArray) = x := ⟨_, rfl⟩
  obtain ⟨t2, ht2⟩ : ∃ x, (A.read s.data.toList 0 1048576).2 = x := ⟨_, rfl⟩
  rw [hz1, hz2] at hc
  have HZ1 := hide hz1; have HZ2 := hide hz2; have HT1 := hide ht1; have HT2 := hide ht2
  clear h hi hj hok hs hdl hz1 hz2 ht1 ht2
  go_enter Tryz.func27, Tryz.ntmps27
  go_wp2_with fail
  refine hc.mono ?_
  rintro e w1 ⟨rfl, rfl⟩
  replace hc := r_size HH.out HJ.out HOK.out s
  rw [HZ1.out, HZ2.out] at hc
  go_wp2_with fail
  refine hc.mono ?_
  rintro e w2 ⟨rfl, rfl⟩
  replace hc := s_read HH.out HI.out s HS.out 0 1048576
  rw [HT1.out, HT2.out] at hc
  go_wp2_with fail
  refine hc.mono ?_
  rintro e w3 ⟨rfl, h, hb⟩
  have H3 := hide h
  have HB3 := hide hb
  replace hc := r_read H3.out HJ.out HOK.out s 0 1048576
  rw [HT1.out, HT2.out] at hc
  clear h hb
  go_wp2_with fail
  refine hc.mono ?_
  rintro e w4 ⟨rfl, rfl⟩
  replace hc := s_dirty H3.out HI.out s HS.out
  rw [HDL.out] at hc
  go_wp2_with fail
  refine hc.mono ?_
  rintro e w5 ⟨v5, rfl, hr, h, hb⟩
  rw [hld] at hr
  obtain ⟨ad5, cap5, e5, _, _, _⟩ := row_at hr
  subst e5
  have HB5 := hide (HB3.out.trans hb)
  replace hc := r_dirty h (get_push HJ.out) HOK.out s
  rw [HDL.out] at hc
  clear h hb hr
  go_wp2_with fail
  refine hc.mono ?_
  rintro e w6 ⟨v6, rfl, hr, h, hb⟩
  rw [hld] at hr
  obtain ⟨ad6, cap6, e6, hr6, _, _⟩ := row_at hr
  subst e6
  have hr5 := h.rowOf (get_push (get_last L _))
  rw [hld] at hr5
  obtain ⟨_, _, en, hr5', _, _⟩ := row_at hr5
  cases en
  have HB6 := hide (HB5.out.trans hb)
  replace hc := sameInts_any w6 ad5 ad6 cap5 cap6 dl dl hr5' hr6 hdm hdm
  rw [db] at hc
  have H6 := hide h.drop.drop
  clear h hb hr hr5 hr5' hr6
  go_wp2_with fail
  refine hc.mono ?_
  rintro e w7 ⟨rfl, hb⟩
  have H7 := hide (H6.out.below hb)
  have HB7 := hide (HB6.out.trans (hb.mono H6.out.base))
  clear hb hc
  go_wp2
  go_ret
  exact ⟨rfl, H7.out, HB7.out⟩
end
def cellsT : List FT → List Value
  | [] => []
  | x :: r => x.cs.toList ++ cellsT r
theorem cellsT_length : ∀ xs : List FT, (cellsT xs).length = xs.length * 4
  | [] => rfl
  | x :: r => by
    show (x.cs.toList ++ cellsT r).length = _
    rw [List.length_append, cellsT_length r, List.length_cons]
    show 4 + _ = _
    omega
theorem cellsT_get : ∀ (xs : List FT) (k : Nat) (h : k < xs.length) (j : Nat), j < 4 → (cellsT xs)[k * 4 + j]? = (xs[k].cs)[j]?
  | [], k, h, _, _ => by simp at h
  | x :: r, 0, _, j, hj => by
    show (x.cs.toList ++ cellsT r)[0 * 4 + j]? = x.cs[j]?
    rw [List.getElem?_append_left (by show _ < 4; omega), Array.getElem?_toList]
    congr 1
    omega
  | x :: r, k + 1, h, j, hj => by
    show (x.cs.toList ++ cellsT r)[(k + 1) * 4 + j]? = _
    rw [List.getElem?_append_right (by show 4 ≤ _; omega)]
    show (cellsT r)[(k + 1) * 4 + j - 4]? = _
    rw [show (k + 1) * 4 + j - 4 = k * 4 + j by omega, cellsT_get r k (by simp at h; omega) j hj]
    rfl
theorem one_fate (x : FT) : ∀ u ∈ x.cs.toList, u.oneCell' = true := by
  intro u hu
  simp only [FT.cs, List.mem_cons, List.not_mem_nil, or_false] at hu
  rcases hu with rfl | rfl | rfl | rfl <;> rfl
theorem one_fates : ∀ xs : List FT, ∀ u ∈ cellsT xs, u.oneCell' = true
  | [], u, hu => by simp [cellsT] at hu
  | x :: r, u, hu => by
    rcases List.mem_append.1 hu with h | h
    · exact one_fate x u h
    · exact one_fates r u h
theorem infoT : (Tryz.prog.info? 51).map (fun i => (i.zero, i.size, i.bytes)) = some (some (.agg #[.string ⟨#[]⟩, .int .i64 0, .int .i64 0, .string ⟨#[]⟩]), 4, 48) := by kernel_rfl
theorem app_fates (w : World) (ad : Option Addr) (cap : Nat) (ls : List FT) (hfa : FatesAt w ad ls) (hsz : ls.length * 48 ≤ 140737488355328) (ty : TypeId) :
    ∃ v w', (Builtin.append_ #[31, 31] ty #[.slice none 0 0, .slice ad ls.length cap]).run Tryz.prog w = .ok v w' ∧ w'.ownsRow w.heap.size 51 4 v ls.length (cellsT ls) ∧ Below w.heap.size w w' := by
  obtain ⟨i, hi, hz0, hz1, hz2⟩ := info_parts infoT
  by_cases he : ls = []
  · subst he
    have hs : Src Tryz.prog i.size 31 (.slice ad 0 cap) 0 [] w := by
      cases ad with
      | none => exact Src.ofNil w Tryz.underlying31 cap
      | some a => exact Src.ofSlice w Tryz.underlying31 a 0 cap [] (by simp) (fun j u hu => by simp at hu) (by simp)
    exact ⟨_, _, run_append_nothing (P := Tryz.prog) w _ _ ty _ i Tryz.underlying31 hi none 0 0 (Nat.le_refl _) _ hs, World.ownsRow_nil _ _ _ _, Below.refl _ _⟩
  · rcases hfa with h | ⟨b, o, rfl, hl, hc⟩
    · exact absurd h he
    have hpos : 0 < ls.length := List.length_pos_iff.2 he
    obtain ⟨g, c, w', hr, h2, h3, h4, h5⟩ := run_append_lies (P := Tryz.prog) w 31 ty w.heap.size 51 i _ 4 48 Tryz.underlying31 hi hz0 hz1 hz2 rfl (by decide) (.slice none 0 0) 0 [] (World.ownsRow_nil _ _ _ _) ⟨b, o, none⟩ ls.length cap (cellsT ls) (cellsT_length ls) (fun j u hu => by
      have hj := (List.getElem?_eq_some_iff.1 hu).1
      rw [cellsT_length] at hj
      have e := cellsT_get ls (j / 4) (by omega) (j % 4) (by omega)
      rw [show j / 4 * 4 + j % 4 = j by omega, hu] at e
      rw [show (⟨b, o, none⟩ : Addr).add j = ⟨b, o + j, none⟩ by unfold Addr.add; split <;> simp_all]
      have := hc (j / 4) (by omega) (j % 4) (by omega)
      rw [show o + j / 4 * 4 + j % 4 = o + j by omega] at this
      rw [this, e]) (one_fates ls) hpos (by unfold maxLen; omega) (by omega) (Nat.le_refl _) _ rfl
    refine ⟨_, w', hr, ?_, ⟨h3.os, h3.tape, h3.output, h3.size, fun b hb => h3.block b hb (by simp [Value.ownBlock])⟩⟩
    simp only [Nat.zero_add, List.nil_append] at h2
    rw [Nat.zero_add]
    exact h2
theorem set_push {α : Type} {L M : List α} {i : Nat} {y x : α} (h : L[i]? = some y) : (L ++ M).set i x = L.set i x ++ M := List.set_append_left _ _ (List.getElem?_eq_some_iff.1 h).1
def mkF : FT := ⟨⟨#[109, 97, 114, 107]⟩, -7, 0, ⟨#[]⟩⟩
theorem Lies.reblock {B : Nat} {w w' : World} {L : List Item} {q g : Nat} {ob ob' : Obj} (h : Lies B w L) (hi : L[q]? = some (.block g ob)) (hn : w'.heap[g]? = some ob') (ht : Turn (fun b => b = g) w w') : Lies B w' (L.set q (.block g ob')) ∧ Below B w w' := by
  obtain ⟨S, hp, hB, _, hk⟩ := h.upd hi
  exact hk w' (.block g ob') (fun b => b = g) ⟨hn, fun _ => Iff.rfl⟩ ⟨ht.mono (fun b hb => (hp.2 b).2 hb), fun b hb => .inl ((hp.2 b).2 hb)⟩
section
variable {B : Nat} {w : World} {L : List Item} {i j p r : Nat} {A : AD}
theorem Lies.blockOf {q g : Nat} {ob : Obj} (h : Lies B w L) (hi : L[q]? = some (.block g ob)) : w.heap[g]? = some ob := by
  obtain ⟨S, hp, _⟩ := h.get hi
  exact hp.1
set_option maxRecDepth 5000 in
set_option maxHeartbeats 8000000 in
theorem crashes_any (h : Lies B w L) (hi : L[i]? = some (.disk p A)) (hj : L[j]? = some (.ref r A)) (hij : i ≠ j) (ad : Option Addr) (cap : Nat) (ls : List FT) (hfa : FatesAt w ad ls) (hfo : ∀ x ∈ ls, x.Ok) (hsz : (ls.length + 1) * 48 ≤ 140737488355328) (hlt : ls ≠ [] → ∀ b o, ad = some ⟨b, o, none⟩ → b < B) :
    Calls Tryz.prog 39 #[.pointer (some ⟨p, 0, none⟩), .pointer (some ⟨r, 0, none⟩), .slice ad ls.length cap] w fun e w' => e = .returned (.bool true) ∧ Lies B w' ((L.set i (.disk p (A.crash (ls.map FT.abs)))).set j (.ref r (A.crash (ls.map FT.abs)))) ∧ Below B w w' := by
  have hok := h.ok hi
  obtain ⟨gm, hgm⟩ : ∃ g, w.heap.size = g := ⟨_, rfl⟩
  obtain ⟨w1, hw1⟩ : ∃ w1, w.alloc (.cells mkF.cs 51) = w1 := ⟨_, rfl⟩
  have hb1 : Below w.heap.size w w1 := by rw [← hw1]; exact (Below.refl _ _).alloc (Nat.le_refl _) _
  have hkm : w1.heap[gm]? = some (.cells mkF.cs 51 (0, 0)) := by rw [← hw1, ← hgm]; exact heap_alloc_new w _
  have h1 : Lies B w1 (L ++ [.block gm (.cells mkF.cs 51 (0, 0))]) := h.push (S' := fun b => b = gm) hb1 ⟨hkm, fun _ => Iff.rfl⟩ (fun b hb => by rw [hb, hgm]; exact Nat.le_refl _)
  have hB1 := hb1.mono h.base
  have hfa1 : FatesAt w1 ad ls := hfa.later hB1 hlt
  obtain ⟨v2, w2, hap2, ho2, hb2⟩ := app_fates w1 ad cap ls hfa1 (by omega) 31
  obtain ⟨g3, hg3⟩ : ∃ g, w2.heap.size = g := ⟨_, rfl⟩
  obtain ⟨wa, hwa⟩ : ∃ wa, w2.alloc (.cells mkF.cs 51) = wa := ⟨_, rfl⟩
  obtain ⟨v3, w3, hap3, ho3, hb3⟩ := app_one Tryz.underlying31 infoT rfl (by decide) ho2 hb2.size mkF.cs rfl (one_fate mkF) hsz (by unfold maxLen; omega) 31 hwa hg3
  have hkm2 : w2.cell? ⟨gm, 0, none⟩ = some (.string ⟨#[109, 97, 114, 107]⟩) ∧ w2.cell? ⟨gm, 1, none⟩ = some (.int .i64 (-7)) ∧ w2.cell? ⟨gm, 2, none⟩ = some (.int .i64 0) ∧ w2.cell? ⟨gm, 3, none⟩ = some (.string ⟨#[]⟩) := by
    have e := hb2.block gm (lt_of_some hkm)
    rw [hkm] at e
    exact ⟨by rw [cell_of_row w2 gm 0 _ _ (0, 0) e]; rfl, by rw [cell_of_row w2 gm 1 _ _ (0, 0) e]; rfl, by rw [cell_of_row w2 gm 2 _ _ (0, 0) e]; rfl, by rw [cell_of_row w2 gm 3 _ _ (0, 0) e]; rfl⟩
  obtain ⟨km0, km1, km2, km3⟩ := hkm2
  obtain ⟨hol, hov⟩ := ho3
  rcases hov with ⟨_, hx⟩ | ⟨g, c, cur, rfl, hgb, hkg, hnc, hcm, hcs, htk⟩
  · omega
  have hb13 : Below w1.heap.size w1 w3 := hb2.trans hb3
  have h3 : Lies B w3 (L ++ [.block gm (.cells mkF.cs 51 (0, 0))] ++ [.block g (.cells cur 51 (0, 0))]) := h1.push (S' := fun b => b = g) hb13 ⟨hkg, fun _ => Iff.rfl⟩ (fun b hb => by rw [hb]; exact hgb)
  have hB3 := hB1.trans (hb13.mono h1.base)
  have hc := r_crash h3 (get_push (get_push hj)) hok ad cap ls (hfa.later hB3 hlt) (by omega)
  have HCUR : Hid (∀ q v, (cellsT ls ++ mkF.cs.toList)[q]? = some v → cur[q]? = some v) := fun q v hv => by
    rw [← htk] at hv
    have hl := (List.getElem?_eq_some_iff.1 hv).1
    rw [List.getElem?_take] at hv
    split at hv
    · rw [← Array.getElem?_toList]; exact hv
    · cases hv
  have HB3 := hide hB3
  have HFA := hide hfa
  have HFO := hide hfo
  have HLT := hide hlt
  have HI := hide hi
  have HJ := hide hj
  have HIJ := hide hij
  have HCS : Hid (cur.size = c * 4) := hcs
  have hnc' : ls.length + 1 ≤ c := hnc
  have hlm : ls.length ≤ 2932031007402 := by omega
  unfold FT.cs mkF at hw1 hwa
  simp only at hw1 hwa
  clear h hi hj hij hfa hfo hlt hok h1 hb1 hkm hB1 hfa1 ho2 hb2 hb3 hol hgb hkg hcs htk hb13 h3 hB3
  have HW1 := hide hw1
  clear hw1
  go_enter Tryz.func39, Tryz.ntmps39
  go_upto_region 3 with fail
  rw [HW1.out]
  go_wp2_with (first | (at_builtin; refine wpList_app rfl _ _ _ rfl hap2 ?_; try go_frame) | (at_builtin; refine wpList_app rfl _ _ _ rfl hap3 ?_; try go_frame) | fail)
  refine hc.mono ?_
  rintro e w4 ⟨rfl, h, hb⟩
  have HB4 := hide (HB3.out.trans hb)
  rw [set_push (get_push HJ.out), set_push HJ.out] at h
  obtain ⟨fl, hfl⟩ : ∃ fl, ls.map FT.abs = fl := ⟨_, rfl⟩
  obtain ⟨L1, hL1⟩ : ∃ L1, L.set j (.ref r (A.crash fl)) = L1 := ⟨_, rfl⟩
  rw [hfl, hL1] at h
  have hi1 : L1[i]? = some (.disk p A) := by rw [← hL1]; exact get_set_ne HI.out (fun e => HIJ.out e.symm)
  have hkg4 := h.blockOf (get_last (L1 ++ [.block gm (.cells mkF.cs 51 (0, 0))]) _)
  have HTC : Hid (∀ q (hq : q < ls.length) t, t < 4 → cur[q * 4 + t]? = (ls[q].cs)[t]?) := fun q hq t ht => by
    have e := cellsT_get ls q hq t ht
    obtain ⟨v, hv⟩ : ∃ v, (ls[q].cs)[t]? = some v := ⟨_, Array.getElem?_eq_getElem (show t < 4 from ht)⟩
    rw [hv] at e ⊢
    exact HCUR.out _ _ (by rw [List.getElem?_append_left (by rw [cellsT_length]; omega)]; exact e)
  have hfo4 : FatesAt w4 (some ⟨g, 0, none⟩) ls := .inr ⟨g, 0, rfl, lt_of_some hkg4, fun q hq t ht => by rw [cell_of_row w4 g _ _ _ (0, 0) hkg4, Nat.zero_add]; exact HTC.out q hq t ht⟩
  replace hc := s_crashOwn (i := i) (j := (L1 ++ [Item.block gm (.cells mkF.cs 51 (0, 0))]).length) h (get_push (get_push hi1)) (by have := (List.getElem?_eq_some_iff.1 hi1).1; simp; omega) (get_last _ _) 0 ls c hfo4 HFO.out (by omega)
  have HI1 := hide hi1
  have HL1 := hide hL1
  have HFL := hide hfl
  clear h hb hkg4 hfo4 hi1 hL1 hfl HB3 hap2 hap3 hwa km0 km1 km2 km3
  go_wp2_with fail
  refine hc.mono ?_
  rintro e w5 ⟨rfl, h, hb⟩
  have HB5 := hide (HB4.out.trans hb)
  rw [set_push (get_push HI1.out), set_push HI1.out, HFL.out] at h
  obtain ⟨L2, hL2⟩ : ∃ L2, L1.set i (.disk p (A.crash fl)) = L2 := ⟨_, rfl⟩
  rw [hL2] at h
  have H5 := hide h
  have HL2 := hide hL2
  clear h hb hL2 hc HB4
  go_wp2
  go_loopw [9] (fun i wr => ∃ (k : Nat) (cu : Array Value), k ≤ ls.length ∧ i = .int .i64 (k : Int) ∧ cu.size = c * 4 ∧ (∀ q, 4 * k ≤ q → cu[q]? = cur[q]?) ∧ Lies B wr (L2 ++ [.block gm (.cells mkF.cs 51 (0, 0))] ++ [.block g (.cells cu 51 (0, 0))]) ∧ Below B w wr) (fun i _ => ls.length - (intOf i).toNat)
  case atStart => exact ⟨0, cur, by omega, rfl, HCS.out, fun q _ => rfl, H5.out, HB5.out⟩
  case round =>
    clear H5 HB5
    obtain ⟨k, cu, hk, rfl, hcu, hcq, hlr, hbr⟩ := hrel
    have hkg := hlr.blockOf (get_last _ _)
    have hkm := hlr.blockOf (get_push (get_last L2 _))
    by_cases hlt : k < ls.length
    · have dk : decide ((k : Int) < (ls.length : Int)) = true := decide_eq_true (by omega)
      have hk0 : (0 : Int) ≤ (k : Int) := by omega
      have hk1 : (k : Int) < (ls.length : Int) := by omega
      have hk2 : (k : Int) < (ls.length : Int) + 1 := by omega
      have hk3 : (k : Int) < ((ls.length + 1 : Nat) : Int) := by omega
      rcases (HFA.out.later hbr HLT.out) with hx | ⟨b, o, rfl, hbl, hcs⟩
      · rw [hx] at hlt; exact absurd hlt (by simp)
      have htc := HTC.out k hlt
      have hfc := hcs k hlt
      obtain ⟨x, hx⟩ : ∃ x, ls[k] = x := ⟨_, rfl⟩
      rw [hx] at htc hfc
      have own : ∀ t, t < 4 → wr.cell? ⟨g, k * 4 + t, none⟩ = x.cs[t]? := fun t ht => by rw [cell_of_row wr g _ _ _ (0, 0) hkg, hcq _ (by omega)]; exact htc t ht
      have a0 : wr.cell? ⟨g, k * 4, none⟩ = some (.string x.file) := own 0 (by omega)
      have a1 : wr.cell? ⟨g, k * 4 + 1, none⟩ = some (.int .i64 x.sector) := own 1 (by omega)
      have a2 : wr.cell? ⟨g, k * 4 + 2, none⟩ = some (.int .i64 x.kind) := own 2 (by omega)
      have a3 : wr.cell? ⟨g, k * 4 + 3, none⟩ = some (.string x.bytes) := own 3 (by omega)
      have b0 : wr.cell? ⟨b, o + k * 4, none⟩ = some (.string x.file) := hfc 0 (by omega)
      have b1 : wr.cell? ⟨b, o + k * 4 + 1, none⟩ = some (.int .i64 x.sector) := hfc 1 (by omega)
      have b2 : wr.cell? ⟨b, o + k * 4 + 2, none⟩ = some (.int .i64 x.kind) := hfc 2 (by omega)
      have b3 : wr.cell? ⟨b, o + k * 4 + 3, none⟩ = some (.string x.bytes) := hfc 3 (by omega)
      have z0 : wr.frozen? ⟨g, k * 4, none⟩ = false := frozen_of_row wr g _ _ _ hkg
      have z1 : wr.frozen? ⟨g, k * 4 + 1, none⟩ = false := frozen_of_row wr g _ _ _ hkg
      have z2 : wr.frozen? ⟨g, k * 4 + 2, none⟩ = false := frozen_of_row wr g _ _ _ hkg
      have z3 : wr.frozen? ⟨g, k * 4 + 3, none⟩ = false := frozen_of_row wr g _ _ _ hkg
      have HLR := hide hlr
      have HBR := hide hbr
      have HKG := hide hkg
      have HCQ := hide hcq
      clear hlr hbr hkm hcs htc hfc hx own hkg hcq
      go_wp2
      go_quiet (fail)
      go_wp2
      obtain ⟨cz, hcz⟩ : ∃ cz : Array Value, (((cu.setIfInBounds (k * 4) (.string ⟨#[]⟩)).setIfInBounds (k * 4 + 1) (.int .i64 0)).setIfInBounds (k * 4 + 2) (.int .i64 1)).setIfInBounds (k * 4 + 3) (.string ⟨#[111, 118, 101, 114]⟩) = cz := ⟨_, rfl⟩
      have hkd : (wr.drewN nq).heap[g]? = some (.cells cu 51 (0, 0)) := HKG.out
      have hn : ((((((wr.drewN nq).setCell ⟨g, k * 4, none⟩ (.string ⟨#[]⟩)).setCell ⟨g, k * 4 + 1, none⟩ (.int .i64 0)).setCell ⟨g, k * 4 + 2, none⟩ (.int .i64 1)).setCell ⟨g, k * 4 + 3, none⟩ (.string ⟨#[111, 118, 101, 114]⟩)).heap[g]?) = some (.cells cz 51 (0, 0)) := by
        rw [heap_setCell_same _ g _ _ _ _ (heap_setCell_same _ g _ _ _ _ (heap_setCell_same _ g _ _ _ _ (heap_setCell_same _ g _ _ _ _ hkd))), hcz]
      have ht : Turn (fun b => b = g) wr (((((wr.drewN nq).setCell ⟨g, k * 4, none⟩ (.string ⟨#[]⟩)).setCell ⟨g, k * 4 + 1, none⟩ (.int .i64 0)).setCell ⟨g, k * 4 + 2, none⟩ (.int .i64 1)).setCell ⟨g, k * 4 + 3, none⟩ (.string ⟨#[111, 118, 101, 114]⟩)) := tset (tset (tset (tset ((Turn.refl _ wr).drewN nq) _ _) _ _) _ _) _ _
      obtain ⟨hl2, hb2⟩ := HLR.out.reblock (get_last _ _) hn ht
      rw [show ∀ (X : List Item) (y z : Item), (X ++ [y]).set X.length z = X ++ [z] from fun X y z => by simp] at hl2
      exact ⟨⟨k + 1, cz, by omega, by go_num, by rw [← hcz]; simp [hcu], fun q hq => by
        rw [← hcz, Array.getElem?_setIfInBounds_ne (by omega), Array.getElem?_setIfInBounds_ne (by omega), Array.getElem?_setIfInBounds_ne (by omega), Array.getElem?_setIfInBounds_ne (by omega)]
        exact HCQ.out q (by omega), hl2, HBR.out.trans hb2⟩, by simp [intOf]; omega⟩
    · have hkl : k = ls.length := by omega
      subst hkl
      have dk : decide ((ls.length : Int) < (ls.length : Int)) = false := decide_eq_false (by omega)
      have own : ∀ t v, t < 4 → mkF.cs[t]? = some v → wr.cell? ⟨g, ls.length * 4 + t, none⟩ = some v := fun t v ht hv => by
        rw [cell_of_row wr g _ _ _ (0, 0) hkg, hcq _ (by omega)]
        refine HCUR.out _ _ ?_
        rw [List.getElem?_append_right (by rw [cellsT_length]; omega), cellsT_length, show ls.length * 4 + t - ls.length * 4 = t by omega, Array.getElem?_toList]
        exact hv
      have a0 : wr.cell? ⟨g, ls.length * 4, none⟩ = some (.string ⟨#[109, 97, 114, 107]⟩) := own 0 _ (by omega) rfl
      have a1 : wr.cell? ⟨g, ls.length * 4 + 1, none⟩ = some (.int .i64 (-7)) := own 1 _ (by omega) rfl
      have a2 : wr.cell? ⟨g, ls.length * 4 + 2, none⟩ = some (.int .i64 0) := own 2 _ (by omega) rfl
      have a3 : wr.cell? ⟨g, ls.length * 4 + 3, none⟩ = some (.string ⟨#[]⟩) := own 3 _ (by omega) rfl
      have b0 : wr.cell? ⟨gm, 0, none⟩ = some (.string ⟨#[109, 97, 114, 107]⟩) := by rw [cell_of_row wr gm 0 _ _ (0, 0) hkm]; rfl
      have b1 : wr.cell? ⟨gm, 1, none⟩ = some (.int .i64 (-7)) := by rw [cell_of_row wr gm 1 _ _ (0, 0) hkm]; rfl
      have b2 : wr.cell? ⟨gm, 2, none⟩ = some (.int .i64 0) := by rw [cell_of_row wr gm 2 _ _ (0, 0) hkm]; rfl
      have b3 : wr.cell? ⟨gm, 3, none⟩ = some (.string ⟨#[]⟩) := by rw [cell_of_row wr gm 3 _ _ (0, 0) hkm]; rfl
      have hk0 : (0 : Int) ≤ (ls.length : Int) := by omega
      have hk2 : (ls.length : Int) < (ls.length : Int) + 1 := by omega
      have hk3 : (ls.length : Int) < ((ls.length + 1 : Nat) : Int) := by omega
      have H9 : Hid (Lies B wr ((L.set i (.disk p (A.crash fl))).set j (.ref r (A.crash fl)))) := by
        have e : L2 = (L.set i (.disk p (A.crash fl))).set j (.ref r (A.crash fl)) := by rw [← HL2.out, ← HL1.out, List.set_comm _ _ HIJ.out]
        rw [← e]
        exact hlr.drop.drop
      have HBR := hide hbr
      clear hlr hbr hkm hkg hcq own
      go_wp2
      go_quiet (fail)
      go_wp2
      go_ret
      rw [HFL.out]
      exact ⟨rfl, H9.out.same (Nat.le_refl _) (fun _ _ _ => rfl), drewN_below HBR.out _⟩
end
end Go.Proofs.YtcmhfpiglacdaaaGreat
