/-
  States, records, lists of updates, slots and records among the arguments, opened (printed by gen_r22.py).
-/
import Derived.Test.YtlohfoggcdaeiaaGreatROpenA
namespace Go.Proofs.YtlohfoggcdaeiaaGreat
open Go.ChangeShapes Go.WideShapes Go.ChangeAt Go.RowKit Go.Deep S Go.Joins
set_option linter.unusedVariables false
set_option linter.unusedSimpArgs false
set_option maxRecDepth 100000
theorem cellsN3 : Tryz.prog.cellsOf 3 = 1 := by kernel_rfl
theorem cellsN4 : Tryz.prog.cellsOf 4 = 1 := by kernel_rfl
theorem cellsN9 : Tryz.prog.cellsOf 9 = 1 := by kernel_rfl
theorem cellsN2 : Tryz.prog.cellsOf 2 = 1 := by kernel_rfl
theorem cellsNUs : Tryz.prog.cellsOf 27 = 1 := by kernel_rfl
theorem cellsNSs : Tryz.prog.cellsOf 29 = 1 := by kernel_rfl
theorem cellsNRs : Tryz.prog.cellsOf 40 = 1 := by kernel_rfl
theorem cellsNU : Tryz.prog.cellsOf 36 = 36 := by kernel_rfl
theorem cellsNS : Tryz.prog.cellsOf 49 = 34 := by kernel_rfl
theorem cellsNR : Tryz.prog.cellsOf 38 = 138 := by kernel_rfl
theorem cellsNSt : Tryz.prog.cellsOf 31 = 115 := by kernel_rfl
theorem cellsNP : Tryz.prog.cellsOf 28 = 64 := by kernel_rfl
theorem bytesNU : Tryz.prog.bytesOf 36 = 72 := by kernel_rfl
theorem bytesNS : Tryz.prog.bytesOf 49 = 48 := by kernel_rfl
theorem bytesNR : Tryz.prog.bytesOf 38 = 232 := by kernel_rfl
theorem one_cell {cs : List Value} {o : Nat} {v : Value} (h : (cs.drop o).take 1 = [v]) : cs[o]? = some v := by
  have := congrArg (fun l => l[0]?) h
  simpa [List.getElem?_take, List.getElem?_drop] using this
def Sz {H : Type} (t : TypeId) (d : DataW H) : Prop := ∀ n ∈ d.weights Tryz.prog t, n ≤ reachBytes
section
variable {H : Type}
theorem Sz.arg {ts : List TypeId} {ds : List (DataW H)} (h : (DataW.weightsEach Tryz.prog ts ds).all (· ≤ reachBytes) = true) {j : Nat} {t : TypeId} {d : DataW H} (ht : ts[j]? = some t) (hd : ds[j]? = some d) : Sz t d := fun n hn => by
  have := List.all_eq_true.1 h n (DataW.weights_mem_each ht hd n hn)
  simpa using this
theorem Sz.part {t : TypeId} {fs : Array Field} {parts : List (DataW H)} (h : Sz t (.agg parts)) (hu : Tryz.prog.underlying t = some (.struct fs)) {j : Nat} {t' : TypeId} {d : DataW H} (ht : (fs.toList.map (·.type))[j]? = some t') (hd : parts[j]? = some d) : Sz t' d := fun n hn =>
  h n (by simp only [DataW.weights, hu]; exact DataW.weights_mem_each ht hd n hn)
theorem weights_all {e : TypeId} : ∀ {l : List (DataW H)} {d : DataW H}, d ∈ l → ∀ n ∈ d.weights Tryz.prog e, n ∈ DataW.weightsAll Tryz.prog e l
  | [], _, h, _, _ => by simp at h
  | a :: l, d, h, n, hn => by
    simp only [DataW.weightsAll, List.mem_append]
    rcases List.mem_cons.1 h with rfl | h
    · exact .inl hn
    · exact .inr (weights_all h n hn)
theorem Sz.elem {t e : TypeId} {elems spare : List (DataW H)} (h : Sz t (.slice elems spare)) (hu : Tryz.prog.underlying t = some (.slice e)) {d : DataW H} (hd : d ∈ elems) : Sz e d := fun n hn =>
  h n (by simp only [DataW.weights, hu, List.mem_cons, List.mem_append]; exact .inr (.inl (weights_all hd n hn)))
end
section
variable {H : Type} {enc : TypeId × Value → H} {W : World} {base : Nat} {spare : Nat → Bool} {held : Bool}
theorem hash_cells {n : Nat} {cs : List Value} {x : DataW H × List MemPlace} (h : DataW.trod enc Tryz.prog W base spare held n 25 cs = some x) : ∃ f : Nat → UInt8, ∀ i, i < 32 → cs[i]? = some (bv f i) := by
  obtain ⟨ys, m2, _, _, _, hyl, hall⟩ := DataW.trod_array Tryz.underlying25 h
  have key : ∀ i, i < 32 → ∃ c : UInt8, cs[i]? = some (.int .u8 (c.toNat : Int)) := fun i hi => by
    have h1 := hall i hi
    rw [cells5, Nat.mul_one, List.getElem?_eq_getElem (show i < ys.length by omega)] at h1
    obtain ⟨z, hz, _, wz⟩ := DataW.trod_int Tryz.underlying5 h1
    have hr : 0 ≤ z ∧ z ≤ 255 := by simpa [Lit.wf, IntKind.min, IntKind.max, IntKind.signed, IntKind.bits] using wz
    refine ⟨UInt8.ofNat z.toNat, ?_⟩
    rw [one_cell hz, UInt8.toNat_ofNat', Nat.mod_eq_of_lt (by omega), Int.toNat_of_nonneg hr.1]
  refine ⟨fun i => match cs[i]? with | some (.int _ z) => UInt8.ofNat z.toNat | _ => 0, fun i hi => ?_⟩
  obtain ⟨c, hc⟩ := key i hi
  unfold bv
  simp only [hc, Int.toNat_natCast]
  rw [UInt8.ofNat_toNat]
theorem hash_in {n o : Nat} {cs : List Value} {x : DataW H × List MemPlace} (h : DataW.trod enc Tryz.prog W base spare held n 25 ((cs.drop o).take (Tryz.prog.cellsOf 25)) = some x) : ∃ f : Nat → UInt8, ∀ i, i < 32 → cs[o + i]? = some (bv f i) := by
  obtain ⟨f, hf⟩ := hash_cells h
  refine ⟨f, fun i hi => ?_⟩
  have := hf i hi
  rw [cells26, List.getElem?_take, if_pos hi, List.getElem?_drop] at this
  exact this
theorem two_in {n o : Nat} {cs : List Value} {x : DataW H × List MemPlace} (h : DataW.trod enc Tryz.prog W base spare held n 28 ((cs.drop o).take (Tryz.prog.cellsOf 28)) = some x) : ∃ f g : Nat → UInt8, (∀ i, i < 32 → cs[o + i]? = some (bv f i)) ∧ ∀ i, i < 32 → cs[o + 32 + i]? = some (bv g i) := by
  obtain ⟨ys, m2, _, _, _, hyl, hall⟩ := DataW.trod_array Tryz.underlying28 h
  have h0 := hall 0 (by omega)
  have h1 := hall 1 (by omega)
  rw [List.getElem?_eq_getElem (show 0 < ys.length by omega)] at h0
  rw [List.getElem?_eq_getElem (show 1 < ys.length by omega)] at h1
  obtain ⟨f, hf⟩ := hash_in h0
  obtain ⟨g, hg⟩ := hash_in h1
  refine ⟨f, g, fun i hi => ?_, fun i hi => ?_⟩
  · have := hf i hi
    rw [cellsNP, List.getElem?_take, if_pos (by rw [cells26]; omega), List.getElem?_drop, cells26, show o + (0 * 32 + i) = o + i by omega] at this
    exact this
  · have := hg i hi
    rw [cellsNP, List.getElem?_take, if_pos (by rw [cells26]; omega), List.getElem?_drop, cells26, show o + (1 * 32 + i) = o + 32 + i by omega] at this
    exact this
theorem cts_in {n o : Nat} {cs : List Value} {x : DataW H × List MemPlace} (h : DataW.trod enc Tryz.prog W base spare held n 23 ((cs.drop o).take (Tryz.prog.cellsOf 23)) = some x) : ∃ a b : Int, cs[o]? = some (.int .i64 a) ∧ cs[o + 1]? = some (.int .i64 b) := by
  obtain ⟨xs, m, _, hx, hl, hlen, hf⟩ := DataW.trod_struct Tryz.underlying23 h
  have hl6 : xs.length = 2 := hlen
  have g : ∀ (i : Nat) (hi : i < xs.length), xs[i]? = some xs[i] := fun i hi => List.getElem?_eq_getElem hi
  have f0 : DataW.trod enc Tryz.prog W base spare held m 3 ((((cs.drop o).take (Tryz.prog.cellsOf 23)).drop 0).take (Tryz.prog.cellsOf 3)) = some xs[0] := (hf 0 _ rfl).trans (g 0 (by omega))
  have f1 : DataW.trod enc Tryz.prog W base spare held m 3 ((((cs.drop o).take (Tryz.prog.cellsOf 23)).drop 1).take (Tryz.prog.cellsOf 3)) = some xs[1] := (hf 1 _ rfl).trans (g 1 (by omega))
  rw [cellsN3] at f0 f1
  obtain ⟨z0, e0, _, _⟩ := DataW.trod_int Tryz.underlying3 f0
  obtain ⟨z1, e1, _, _⟩ := DataW.trod_int Tryz.underlying3 f1
  have e0 := one_cell e0
  have e1 := one_cell e1
  rw [cellsCt, List.getElem?_take, if_pos (by omega), List.getElem?_drop] at e0 e1
  exact ⟨z0, z1, e0, e1⟩
theorem upd_cells {n : Nat} {cs : List Value} {x : DataW H × List MemPlace} (h : DataW.trod enc Tryz.prog W base spare held n 36 cs = some x) : ∃ V : Upd, ∀ j, j < 36 → cs[j]? = some (V.v j) := by
  obtain ⟨xs, m, _, hx, hl, hlen, hf⟩ := DataW.trod_struct Tryz.underlying36 h
  have hl6 : xs.length = 5 := hlen
  have g : ∀ (i : Nat) (hi : i < xs.length), xs[i]? = some xs[i] := fun i hi => List.getElem?_eq_getElem hi
  have f0 : DataW.trod enc Tryz.prog W base spare held m 3 ((cs.drop 0).take (Tryz.prog.cellsOf 3)) = some xs[0] := (hf 0 _ rfl).trans (g 0 (by omega))
  rw [cellsN3] at f0
  obtain ⟨z0, e0, _, _⟩ := DataW.trod_int Tryz.underlying3 f0
  have e0 := one_cell e0
  have f1 : DataW.trod enc Tryz.prog W base spare held m 2 ((cs.drop 1).take (Tryz.prog.cellsOf 2)) = some xs[1] := (hf 1 _ rfl).trans (g 1 (by omega))
  rw [cellsN2] at f1
  obtain ⟨z1, e1, _, _⟩ := DataW.trod_int Tryz.underlying2 f1
  have e1 := one_cell e1
  have f2 : DataW.trod enc Tryz.prog W base spare held m 2 ((cs.drop 2).take (Tryz.prog.cellsOf 2)) = some xs[2] := (hf 2 _ rfl).trans (g 2 (by omega))
  rw [cellsN2] at f2
  obtain ⟨z2, e2, _, _⟩ := DataW.trod_int Tryz.underlying2 f2
  have e2 := one_cell e2
  have f3 : DataW.trod enc Tryz.prog W base spare held m 25 ((cs.drop 3).take (Tryz.prog.cellsOf 25)) = some xs[3] := (hf 3 _ rfl).trans (g 3 (by omega))
  obtain ⟨z3, e3⟩ := hash_in f3
  have f4 : DataW.trod enc Tryz.prog W base spare held m 9 ((cs.drop 35).take (Tryz.prog.cellsOf 9)) = some xs[4] := (hf 4 _ rfl).trans (g 4 (by omega))
  rw [cellsN9] at f4
  obtain ⟨z4, e4, _⟩ := DataW.trod_string Tryz.underlying9 f4
  have e4 := one_cell e4
  refine ⟨⟨z0, z1, z2, z3, z4⟩, fun j hj => ?_⟩
  unfold Upd.v
  by_cases h0 : j = 0
  · subst h0; rw [if_pos rfl]; exact e0
  rw [if_neg h0]
  by_cases h1 : j = 1
  · subst h1; rw [if_pos rfl]; exact e1
  rw [if_neg h1]
  by_cases h2 : j = 2
  · subst h2; rw [if_pos rfl]; exact e2
  rw [if_neg h2]
  by_cases h3 : j < 35
  · rw [if_pos h3]; have := e3 (j - 3) (by omega); rw [show 3 + (j - 3) = j by omega] at this; exact this
  · rw [if_neg h3, show j = 35 by omega]; exact e4
theorem upd_in {n o : Nat} {cs : List Value} {x : DataW H × List MemPlace} (h : DataW.trod enc Tryz.prog W base spare held n 36 ((cs.drop o).take (Tryz.prog.cellsOf 36)) = some x) : ∃ V : Upd, ∀ j, j < 36 → cs[o + j]? = some (V.v j) := by
  obtain ⟨V, hf⟩ := upd_cells h
  refine ⟨V, fun i hi => ?_⟩
  have := hf i hi
  rw [cellsNU, List.getElem?_take, if_pos hi, List.getElem?_drop] at this
  exact this
theorem slot_cells {n : Nat} {cs : List Value} {x : DataW H × List MemPlace} (h : DataW.trod enc Tryz.prog W base spare held n 49 cs = some x) : ∃ V : Slot, ∀ j, j < 34 → cs[j]? = some (V.v j) := by
  obtain ⟨xs, m, _, hx, hl, hlen, hf⟩ := DataW.trod_struct Tryz.underlying49 h
  have hl6 : xs.length = 3 := hlen
  have g : ∀ (i : Nat) (hi : i < xs.length), xs[i]? = some xs[i] := fun i hi => List.getElem?_eq_getElem hi
  have f0 : DataW.trod enc Tryz.prog W base spare held m 2 ((cs.drop 0).take (Tryz.prog.cellsOf 2)) = some xs[0] := (hf 0 _ rfl).trans (g 0 (by omega))
  rw [cellsN2] at f0
  obtain ⟨z0, e0, _, _⟩ := DataW.trod_int Tryz.underlying2 f0
  have e0 := one_cell e0
  have f1 : DataW.trod enc Tryz.prog W base spare held m 25 ((cs.drop 1).take (Tryz.prog.cellsOf 25)) = some xs[1] := (hf 1 _ rfl).trans (g 1 (by omega))
  obtain ⟨z1, e1⟩ := hash_in f1
  have f2 : DataW.trod enc Tryz.prog W base spare held m 4 ((cs.drop 33).take (Tryz.prog.cellsOf 4)) = some xs[2] := (hf 2 _ rfl).trans (g 2 (by omega))
  rw [cellsN4] at f2
  obtain ⟨z2, e2, _⟩ := DataW.trod_bool Tryz.underlying4 f2
  have e2 := one_cell e2
  refine ⟨⟨z0, z1, z2⟩, fun j hj => ?_⟩
  unfold Slot.v
  by_cases h0 : j = 0
  · subst h0; rw [if_pos rfl]; exact e0
  rw [if_neg h0]
  by_cases h3 : j < 33
  · rw [if_pos h3]; have := e1 (j - 1) (by omega); rw [show 1 + (j - 1) = j by omega] at this; exact this
  · rw [if_neg h3, show j = 33 by omega]; exact e2
end
section
variable {H : Type} {enc : TypeId × Value → H} {W : World} {held : Bool}
theorem open_updsC {fuel : Nat} {cs : List Value} {x : DataW H × List MemPlace} (h : DataW.trod enc Tryz.prog W 0 (fun _ => true) held fuel 27 cs = some x) (hz : Sz 27 x.1) :
    ∃ (s : Sl) (l : List Upd), cs = [s.v] ∧ l.length = s.n ∧ Upds W s.ad l ∧ s.n ≤ s.c ∧ s.c * 72 ≤ 140737488351232 := by
  rcases open_slice Tryz.underlying27 h with ⟨hcs, hx⟩ | ⟨a, len, cap, m, n, D, Pl, hcs, _, hl, hm, hmm, hx, hel⟩
  · exact ⟨⟨none, 0, 0⟩, [], hcs, rfl, .inl rfl, Nat.le_refl _, by show 0 * _ ≤ _; omega⟩
  · simp only [if_true] at hmm
    subst hmm
    rw [hx] at hz
    have hb := hz ((((List.range len).map D).length + ((List.range (m - len)).map fun j => D (len + j)).length) * Tryz.prog.bytesOf 36) (by
      unfold DataW.weights
      rw [Tryz.underlying27]
      exact List.mem_cons_self ..)
    rw [bytesNU] at hb
    simp only [List.length_map, List.length_range] at hb
    unfold reachBytes at hb
    rw [cellsNU] at hel
    have hex : ∀ i, i < len → ∃ V : Upd, ∀ j, j < 36 → W.cell? ((a.add (i * 36)).add j) = some (V.v j) := fun i hi => by
      obtain ⟨cs', h1, h2⟩ := hel i (by omega)
      obtain ⟨_, hln, hget⟩ := World.cells?_some h1
      obtain ⟨V, hV⟩ := upd_cells h2
      exact ⟨V, fun j hj => by rw [hget j hj, hV j hj]⟩
    have hin : Inhabited Upd := ⟨Upd.zero⟩
    obtain ⟨f, hfv⟩ := choose_lt (α := Upd) hex
    refine ⟨⟨some a, len, m⟩, (List.range len).map f, hcs, by simp, ?_, hl, by show m * 72 ≤ _; rw [show len + (m - len) = m by omega] at hb; omega⟩
    by_cases hl0 : len = 0
    · subst hl0; exact .inl rfl
    · obtain ⟨b, off, spot⟩ := a
      have hspot : spot = none := by simpa [Addr.add] using World.cell?_spot (hfv 0 (by omega) 0 (by omega))
      subst hspot
      have hadd : ∀ i j, ((⟨b, off, none⟩ : Addr).add (i * 36)).add j = ⟨b, off + i * 36 + j, none⟩ := fun i j => by
        rw [add_add]; unfold Addr.add; split <;> simp_all <;> omega
      refine .inr ⟨b, off, rfl, ?_, fun i s hs j hj => ?_⟩
      · have := hfv 0 (by omega) 0 (by omega)
        rw [hadd] at this
        exact World.block_lt_of_cell? _ _ this
      · have hi' : i < len := by simpa using (List.getElem?_eq_some_iff.1 hs).1
        rw [List.getElem?_map, List.getElem?_range hi'] at hs
        have hs' : f i = s := by simpa using hs
        have := hfv i hi' j hj
        rw [hadd, hs'] at this
        exact this
theorem open_slotsC {fuel : Nat} {cs : List Value} {x : DataW H × List MemPlace} (h : DataW.trod enc Tryz.prog W 0 (fun _ => true) held fuel 29 cs = some x) (hz : Sz 29 x.1) :
    ∃ (s : Sl) (l : List Slot), cs = [s.v] ∧ l.length = s.n ∧ Slots W s.ad l ∧ s.n ≤ s.c ∧ s.c * 48 ≤ 140737488351232 := by
  rcases open_slice Tryz.underlying29 h with ⟨hcs, hx⟩ | ⟨a, len, cap, m, n, D, Pl, hcs, _, hl, hm, hmm, hx, hel⟩
  · exact ⟨⟨none, 0, 0⟩, [], hcs, rfl, .inl rfl, Nat.le_refl _, by show 0 * _ ≤ _; omega⟩
  · simp only [if_true] at hmm
    subst hmm
    rw [hx] at hz
    have hb := hz ((((List.range len).map D).length + ((List.range (m - len)).map fun j => D (len + j)).length) * Tryz.prog.bytesOf 49) (by
      unfold DataW.weights
      rw [Tryz.underlying29]
      exact List.mem_cons_self ..)
    rw [bytesNS] at hb
    simp only [List.length_map, List.length_range] at hb
    unfold reachBytes at hb
    rw [cellsNS] at hel
    have hex : ∀ i, i < len → ∃ V : Slot, ∀ j, j < 34 → W.cell? ((a.add (i * 34)).add j) = some (V.v j) := fun i hi => by
      obtain ⟨cs', h1, h2⟩ := hel i (by omega)
      obtain ⟨_, hln, hget⟩ := World.cells?_some h1
      obtain ⟨V, hV⟩ := slot_cells h2
      exact ⟨V, fun j hj => by rw [hget j hj, hV j hj]⟩
    have hin : Inhabited Slot := ⟨Slot.zero⟩
    obtain ⟨f, hfv⟩ := choose_lt (α := Slot) hex
    refine ⟨⟨some a, len, m⟩, (List.range len).map f, hcs, by simp, ?_, hl, by show m * 48 ≤ _; rw [show len + (m - len) = m by omega] at hb; omega⟩
    by_cases hl0 : len = 0
    · subst hl0; exact .inl rfl
    · obtain ⟨b, off, spot⟩ := a
      have hspot : spot = none := by simpa [Addr.add] using World.cell?_spot (hfv 0 (by omega) 0 (by omega))
      subst hspot
      have hadd : ∀ i j, ((⟨b, off, none⟩ : Addr).add (i * 34)).add j = ⟨b, off + i * 34 + j, none⟩ := fun i j => by
        rw [add_add]; unfold Addr.add; split <;> simp_all <;> omega
      refine .inr ⟨b, off, rfl, ?_, fun i s hs j hj => ?_⟩
      · have := hfv 0 (by omega) 0 (by omega)
        rw [hadd] at this
        exact World.block_lt_of_cell? _ _ this
      · have hi' : i < len := by simpa using (List.getElem?_eq_some_iff.1 hs).1
        rw [List.getElem?_map, List.getElem?_range hi'] at hs
        have hs' : f i = s := by simpa using hs
        have := hfv i hi' j hj
        rw [hadd, hs'] at this
        exact this
/-- What stands behind a state. -/
structure StAt (W : World) (s : St) (lo lp : List Upd) (ls : List Slot) : Prop where
  no : lo.length = s.ours.n
  np : lp.length = s.peers.n
  ns : ls.length = s.shelf.n
  o : Upds W s.ours.ad lo
  p : Upds W s.peers.ad lp
  f : Slots W s.shelf.ad ls
  co : s.ours.n ≤ s.ours.c
  cp : s.peers.n ≤ s.peers.c
  zo : s.ours.n ≤ 1954687338212
  zp : s.peers.n ≤ 1954687338212
  zs : s.shelf.n ≤ 2932031007400
set_option maxRecDepth 100000 in
theorem st_cells {n : Nat} {cs : List Value} {x : DataW H × List MemPlace} (h : DataW.trod enc Tryz.prog W 0 (fun _ => true) held n 31 cs = some x) (hz : Sz 31 x.1) : ∃ (V : St) (lo lp : List Upd) (ls : List Slot), (∀ j, j < 115 → cs[j]? = some (V.v j)) ∧ StAt W V lo lp ls := by
  obtain ⟨xs, m, _, hx, hl, hlen, hf⟩ := DataW.trod_struct Tryz.underlying31 h
  have hl6 : xs.length = 18 := hlen
  have g : ∀ (i : Nat) (hi : i < xs.length), xs[i]? = some xs[i] := fun i hi => List.getElem?_eq_getElem hi
  rw [hx] at hz
  have f0 : DataW.trod enc Tryz.prog W 0 (fun _ => true) held m 3 ((cs.drop 0).take (Tryz.prog.cellsOf 3)) = some xs[0] := (hf 0 _ rfl).trans (g 0 (by omega))
  rw [cellsN3] at f0
  obtain ⟨z0, e0, _, _⟩ := DataW.trod_int Tryz.underlying3 f0
  have e0 := one_cell e0
  have f1 : DataW.trod enc Tryz.prog W 0 (fun _ => true) held m 2 ((cs.drop 1).take (Tryz.prog.cellsOf 2)) = some xs[1] := (hf 1 _ rfl).trans (g 1 (by omega))
  rw [cellsN2] at f1
  obtain ⟨z1, e1, _, _⟩ := DataW.trod_int Tryz.underlying2 f1
  have e1 := one_cell e1
  have f2 : DataW.trod enc Tryz.prog W 0 (fun _ => true) held m 2 ((cs.drop 2).take (Tryz.prog.cellsOf 2)) = some xs[2] := (hf 2 _ rfl).trans (g 2 (by omega))
  rw [cellsN2] at f2
  obtain ⟨z2, e2, _, _⟩ := DataW.trod_int Tryz.underlying2 f2
  have e2 := one_cell e2
  have f3 : DataW.trod enc Tryz.prog W 0 (fun _ => true) held m 2 ((cs.drop 3).take (Tryz.prog.cellsOf 2)) = some xs[3] := (hf 3 _ rfl).trans (g 3 (by omega))
  rw [cellsN2] at f3
  obtain ⟨z3, e3, _, _⟩ := DataW.trod_int Tryz.underlying2 f3
  have e3 := one_cell e3
  have f4 : DataW.trod enc Tryz.prog W 0 (fun _ => true) held m 27 ((cs.drop 4).take (Tryz.prog.cellsOf 27)) = some xs[4] := (hf 4 _ rfl).trans (g 4 (by omega))
  rw [cellsNUs] at f4
  have hz4 : Sz 27 xs[4].1 := Sz.part hz Tryz.underlying31 (j := 4) (t' := 27) rfl (d := xs[4].1) (by rw [List.getElem?_map, g 4 (by omega)]; rfl)
  obtain ⟨z4, l4, e4, n4, u4, c4, b4⟩ := open_updsC f4 hz4
  have e4 := one_cell e4
  have f5 : DataW.trod enc Tryz.prog W 0 (fun _ => true) held m 27 ((cs.drop 5).take (Tryz.prog.cellsOf 27)) = some xs[5] := (hf 5 _ rfl).trans (g 5 (by omega))
  rw [cellsNUs] at f5
  have hz5 : Sz 27 xs[5].1 := Sz.part hz Tryz.underlying31 (j := 5) (t' := 27) rfl (d := xs[5].1) (by rw [List.getElem?_map, g 5 (by omega)]; rfl)
  obtain ⟨z5, l5, e5, n5, u5, c5, b5⟩ := open_updsC f5 hz5
  have e5 := one_cell e5
  have f6 : DataW.trod enc Tryz.prog W 0 (fun _ => true) held m 2 ((cs.drop 6).take (Tryz.prog.cellsOf 2)) = some xs[6] := (hf 6 _ rfl).trans (g 6 (by omega))
  rw [cellsN2] at f6
  obtain ⟨z6, e6, _, _⟩ := DataW.trod_int Tryz.underlying2 f6
  have e6 := one_cell e6
  have f7 : DataW.trod enc Tryz.prog W 0 (fun _ => true) held m 2 ((cs.drop 7).take (Tryz.prog.cellsOf 2)) = some xs[7] := (hf 7 _ rfl).trans (g 7 (by omega))
  rw [cellsN2] at f7
  obtain ⟨z7, e7, _, _⟩ := DataW.trod_int Tryz.underlying2 f7
  have e7 := one_cell e7
  have f8 : DataW.trod enc Tryz.prog W 0 (fun _ => true) held m 2 ((cs.drop 8).take (Tryz.prog.cellsOf 2)) = some xs[8] := (hf 8 _ rfl).trans (g 8 (by omega))
  rw [cellsN2] at f8
  obtain ⟨z8, e8, _, _⟩ := DataW.trod_int Tryz.underlying2 f8
  have e8 := one_cell e8
  have f9 : DataW.trod enc Tryz.prog W 0 (fun _ => true) held m 23 ((cs.drop 9).take (Tryz.prog.cellsOf 23)) = some xs[9] := (hf 9 _ rfl).trans (g 9 (by omega))
  obtain ⟨z9, y9, e9, d9⟩ := cts_in f9
  have f10 : DataW.trod enc Tryz.prog W 0 (fun _ => true) held m 23 ((cs.drop 11).take (Tryz.prog.cellsOf 23)) = some xs[10] := (hf 10 _ rfl).trans (g 10 (by omega))
  obtain ⟨z10, y10, e10, d10⟩ := cts_in f10
  have f11 : DataW.trod enc Tryz.prog W 0 (fun _ => true) held m 23 ((cs.drop 13).take (Tryz.prog.cellsOf 23)) = some xs[11] := (hf 11 _ rfl).trans (g 11 (by omega))
  obtain ⟨z11, y11, e11, d11⟩ := cts_in f11
  have f12 : DataW.trod enc Tryz.prog W 0 (fun _ => true) held m 4 ((cs.drop 15).take (Tryz.prog.cellsOf 4)) = some xs[12] := (hf 12 _ rfl).trans (g 12 (by omega))
  rw [cellsN4] at f12
  obtain ⟨z12, e12, _⟩ := DataW.trod_bool Tryz.underlying4 f12
  have e12 := one_cell e12
  have f13 : DataW.trod enc Tryz.prog W 0 (fun _ => true) held m 28 ((cs.drop 16).take (Tryz.prog.cellsOf 28)) = some xs[13] := (hf 13 _ rfl).trans (g 13 (by omega))
  obtain ⟨z13, y13, e13, d13⟩ := two_in f13
  have f14 : DataW.trod enc Tryz.prog W 0 (fun _ => true) held m 25 ((cs.drop 80).take (Tryz.prog.cellsOf 25)) = some xs[14] := (hf 14 _ rfl).trans (g 14 (by omega))
  obtain ⟨z14, e14⟩ := hash_in f14
  have f15 : DataW.trod enc Tryz.prog W 0 (fun _ => true) held m 29 ((cs.drop 112).take (Tryz.prog.cellsOf 29)) = some xs[15] := (hf 15 _ rfl).trans (g 15 (by omega))
  rw [cellsNSs] at f15
  have hz15 : Sz 29 xs[15].1 := Sz.part hz Tryz.underlying31 (j := 15) (t' := 29) rfl (d := xs[15].1) (by rw [List.getElem?_map, g 15 (by omega)]; rfl)
  obtain ⟨z15, l15, e15, n15, u15, c15, b15⟩ := open_slotsC f15 hz15
  have e15 := one_cell e15
  have f16 : DataW.trod enc Tryz.prog W 0 (fun _ => true) held m 3 ((cs.drop 113).take (Tryz.prog.cellsOf 3)) = some xs[16] := (hf 16 _ rfl).trans (g 16 (by omega))
  rw [cellsN3] at f16
  obtain ⟨z16, e16, _, _⟩ := DataW.trod_int Tryz.underlying3 f16
  have e16 := one_cell e16
  have f17 : DataW.trod enc Tryz.prog W 0 (fun _ => true) held m 2 ((cs.drop 114).take (Tryz.prog.cellsOf 2)) = some xs[17] := (hf 17 _ rfl).trans (g 17 (by omega))
  rw [cellsN2] at f17
  obtain ⟨z17, e17, _, _⟩ := DataW.trod_int Tryz.underlying2 f17
  have e17 := one_cell e17
  refine ⟨⟨z0, z1, z2, z3, z4, z5, z6, z7, z8, z9, y9, z10, y10, z11, y11, z12, z13, y13, z14, z15, z16, z17⟩, l4, l5, l15, fun j hj => ?_, ⟨n4, n5, n15, u4, u5, u15, c4, c5, ?_, ?_, ?_⟩⟩
  rotate_left
  · show z4.n ≤ _; omega
  · show z5.n ≤ _; omega
  · show z15.n ≤ _; omega
  unfold St.v
  by_cases h : j < 1
  · rw [if_pos h]; rw [show j = 0 by omega]; exact e0
  rw [if_neg h]
  by_cases h : j < 2
  · rw [if_pos h]; rw [show j = 1 by omega]; exact e1
  rw [if_neg h]
  by_cases h : j < 3
  · rw [if_pos h]; rw [show j = 2 by omega]; exact e2
  rw [if_neg h]
  by_cases h : j < 4
  · rw [if_pos h]; rw [show j = 3 by omega]; exact e3
  rw [if_neg h]
  by_cases h : j < 5
  · rw [if_pos h]; rw [show j = 4 by omega]; exact e4
  rw [if_neg h]
  by_cases h : j < 6
  · rw [if_pos h]; rw [show j = 5 by omega]; exact e5
  rw [if_neg h]
  by_cases h : j < 7
  · rw [if_pos h]; rw [show j = 6 by omega]; exact e6
  rw [if_neg h]
  by_cases h : j < 8
  · rw [if_pos h]; rw [show j = 7 by omega]; exact e7
  rw [if_neg h]
  by_cases h : j < 9
  · rw [if_pos h]; rw [show j = 8 by omega]; exact e8
  rw [if_neg h]
  by_cases h : j < 10
  · rw [if_pos h]; rw [show j = 9 by omega]; exact e9
  rw [if_neg h]
  by_cases h : j < 11
  · rw [if_pos h]; rw [show j = 10 by omega]; exact d9
  rw [if_neg h]
  by_cases h : j < 12
  · rw [if_pos h]; rw [show j = 11 by omega]; exact e10
  rw [if_neg h]
  by_cases h : j < 13
  · rw [if_pos h]; rw [show j = 12 by omega]; exact d10
  rw [if_neg h]
  by_cases h : j < 14
  · rw [if_pos h]; rw [show j = 13 by omega]; exact e11
  rw [if_neg h]
  by_cases h : j < 15
  · rw [if_pos h]; rw [show j = 14 by omega]; exact d11
  rw [if_neg h]
  by_cases h : j < 16
  · rw [if_pos h]; rw [show j = 15 by omega]; exact e12
  rw [if_neg h]
  by_cases h : j < 48
  · rw [if_pos h]; have := e13 (j - 16) (by omega); rw [show 16 + (j - 16) = j by omega] at this; exact this
  rw [if_neg h]
  by_cases h : j < 80
  · rw [if_pos h]; have := d13 (j - 48) (by omega); rw [show 48 + (j - 48) = j by omega] at this; exact this
  rw [if_neg h]
  by_cases h : j < 112
  · rw [if_pos h]; have := e14 (j - 80) (by omega); rw [show 80 + (j - 80) = j by omega] at this; exact this
  rw [if_neg h]
  by_cases h : j < 113
  · rw [if_pos h]; rw [show j = 112 by omega]; exact e15
  rw [if_neg h]
  by_cases h : j < 114
  · rw [if_pos h]; rw [show j = 113 by omega]; exact e16
  rw [if_neg h]
  rw [show j = 114 by omega]; exact e17
theorem rc_cells {n : Nat} {cs : List Value} {x : DataW H × List MemPlace} (h : DataW.trod enc Tryz.prog W 0 (fun _ => true) held n 38 cs = some x) (hz : Sz 38 x.1) : ∃ (V : Rc × List Upd), (∀ j, j < 138 → cs[j]? = some (V.1.v j)) ∧ V.2.length = V.1.upds.n ∧ Upds W V.1.upds.ad V.2 ∧ V.1.upds.n ≤ V.1.upds.c ∧ V.1.upds.c * 72 ≤ 140737488351232 := by
  obtain ⟨xs, m, _, hx, hl, hlen, hf⟩ := DataW.trod_struct Tryz.underlying38 h
  have hl6 : xs.length = 9 := hlen
  have g : ∀ (i : Nat) (hi : i < xs.length), xs[i]? = some xs[i] := fun i hi => List.getElem?_eq_getElem hi
  rw [hx] at hz
  have f0 : DataW.trod enc Tryz.prog W 0 (fun _ => true) held m 3 ((cs.drop 0).take (Tryz.prog.cellsOf 3)) = some xs[0] := (hf 0 _ rfl).trans (g 0 (by omega))
  rw [cellsN3] at f0
  obtain ⟨z0, e0, _, _⟩ := DataW.trod_int Tryz.underlying3 f0
  have e0 := one_cell e0
  have f1 : DataW.trod enc Tryz.prog W 0 (fun _ => true) held m 36 ((cs.drop 1).take (Tryz.prog.cellsOf 36)) = some xs[1] := (hf 1 _ rfl).trans (g 1 (by omega))
  obtain ⟨z1, e1⟩ := upd_in f1
  have f2 : DataW.trod enc Tryz.prog W 0 (fun _ => true) held m 27 ((cs.drop 37).take (Tryz.prog.cellsOf 27)) = some xs[2] := (hf 2 _ rfl).trans (g 2 (by omega))
  rw [cellsNUs] at f2
  have hz2 : Sz 27 xs[2].1 := Sz.part hz Tryz.underlying38 (j := 2) (t' := 27) rfl (d := xs[2].1) (by rw [List.getElem?_map, g 2 (by omega)]; rfl)
  obtain ⟨z2, l2, e2, n2, u2, c2, b2⟩ := open_updsC f2 hz2
  have e2 := one_cell e2
  have f3 : DataW.trod enc Tryz.prog W 0 (fun _ => true) held m 2 ((cs.drop 38).take (Tryz.prog.cellsOf 2)) = some xs[3] := (hf 3 _ rfl).trans (g 3 (by omega))
  rw [cellsN2] at f3
  obtain ⟨z3, e3, _, _⟩ := DataW.trod_int Tryz.underlying2 f3
  have e3 := one_cell e3
  have f4 : DataW.trod enc Tryz.prog W 0 (fun _ => true) held m 23 ((cs.drop 39).take (Tryz.prog.cellsOf 23)) = some xs[4] := (hf 4 _ rfl).trans (g 4 (by omega))
  obtain ⟨z4, y4, e4, d4⟩ := cts_in f4
  have f5 : DataW.trod enc Tryz.prog W 0 (fun _ => true) held m 25 ((cs.drop 41).take (Tryz.prog.cellsOf 25)) = some xs[5] := (hf 5 _ rfl).trans (g 5 (by omega))
  obtain ⟨z5, e5⟩ := hash_in f5
  have f6 : DataW.trod enc Tryz.prog W 0 (fun _ => true) held m 25 ((cs.drop 73).take (Tryz.prog.cellsOf 25)) = some xs[6] := (hf 6 _ rfl).trans (g 6 (by omega))
  obtain ⟨z6, e6⟩ := hash_in f6
  have f7 : DataW.trod enc Tryz.prog W 0 (fun _ => true) held m 25 ((cs.drop 105).take (Tryz.prog.cellsOf 25)) = some xs[7] := (hf 7 _ rfl).trans (g 7 (by omega))
  obtain ⟨z7, e7⟩ := hash_in f7
  have f8 : DataW.trod enc Tryz.prog W 0 (fun _ => true) held m 3 ((cs.drop 137).take (Tryz.prog.cellsOf 3)) = some xs[8] := (hf 8 _ rfl).trans (g 8 (by omega))
  rw [cellsN3] at f8
  obtain ⟨z8, e8, _, _⟩ := DataW.trod_int Tryz.underlying3 f8
  have e8 := one_cell e8
  refine ⟨(⟨z0, z1, z2, z3, z4, y4, z5, z6, z7, z8⟩, l2), fun j hj => ?_, n2, u2, c2, b2⟩
  show cs[j]? = some (Rc.v _ j)
  unfold Rc.v
  by_cases h : j < 1
  · rw [if_pos h]; rw [show j = 0 by omega]; exact e0
  rw [if_neg h]
  by_cases h : j < 37
  · rw [if_pos h]; have := e1 (j - 1) (by omega); rw [show 1 + (j - 1) = j by omega] at this; exact this
  rw [if_neg h]
  by_cases h : j < 38
  · rw [if_pos h]; rw [show j = 37 by omega]; exact e2
  rw [if_neg h]
  by_cases h : j < 39
  · rw [if_pos h]; rw [show j = 38 by omega]; exact e3
  rw [if_neg h]
  by_cases h : j < 40
  · rw [if_pos h]; rw [show j = 39 by omega]; exact e4
  rw [if_neg h]
  by_cases h : j < 41
  · rw [if_pos h]; rw [show j = 40 by omega]; exact d4
  rw [if_neg h]
  by_cases h : j < 73
  · rw [if_pos h]; have := e5 (j - 41) (by omega); rw [show 41 + (j - 41) = j by omega] at this; exact this
  rw [if_neg h]
  by_cases h : j < 105
  · rw [if_pos h]; have := e6 (j - 73) (by omega); rw [show 73 + (j - 73) = j by omega] at this; exact this
  rw [if_neg h]
  by_cases h : j < 137
  · rw [if_pos h]; have := e7 (j - 105) (by omega); rw [show 105 + (j - 105) = j by omega] at this; exact this
  rw [if_neg h]
  rw [show j = 137 by omega]; exact e8
/-- A list of records, and what stands behind each. -/
def Recs (w : World) (ad : Option Addr) (rs : List (Rc × List Upd)) : Prop := rs = [] ∨ ∃ b off, ad = some ⟨b, off, none⟩ ∧ b < w.heap.size ∧ ∀ i r, rs[i]? = some r → (∀ j, j < 138 → w.cell? ⟨b, off + i * 138 + j, none⟩ = some (r.1.v j)) ∧ r.2.length = r.1.upds.n ∧ Upds w r.1.upds.ad r.2 ∧ r.1.upds.n ≤ r.1.upds.c ∧ r.1.upds.c * 72 ≤ 140737488351232
theorem open_recsC {fuel : Nat} {cs : List Value} {x : DataW H × List MemPlace} (h : DataW.trod enc Tryz.prog W 0 (fun _ => true) held fuel 40 cs = some x) (hz : Sz 40 x.1) :
    ∃ (s : Sl) (l : List (Rc × List Upd)), cs = [s.v] ∧ l.length = s.n ∧ Recs W s.ad l ∧ s.n ≤ s.c ∧ s.c * 232 ≤ 140737488351232 := by
  rcases open_slice Tryz.underlying40 h with ⟨hcs, hx⟩ | ⟨a, len, cap, m, n, D, Pl, hcs, _, hl, hm, hmm, hx, hel⟩
  · exact ⟨⟨none, 0, 0⟩, [], hcs, rfl, .inl rfl, Nat.le_refl _, by show 0 * _ ≤ _; omega⟩
  · simp only [if_true] at hmm
    subst hmm
    rw [hx] at hz
    have hb := hz ((((List.range len).map D).length + ((List.range (m - len)).map fun j => D (len + j)).length) * Tryz.prog.bytesOf 38) (by
      unfold DataW.weights
      rw [Tryz.underlying40]
      exact List.mem_cons_self ..)
    rw [bytesNR] at hb
    simp only [List.length_map, List.length_range] at hb
    unfold reachBytes at hb
    rw [cellsNR] at hel
    have hex : ∀ i, i < len → ∃ V : Rc × List Upd, (∀ j, j < 138 → W.cell? ((a.add (i * 138)).add j) = some (V.1.v j)) ∧ V.2.length = V.1.upds.n ∧ Upds W V.1.upds.ad V.2 ∧ V.1.upds.n ≤ V.1.upds.c ∧ V.1.upds.c * 72 ≤ 140737488351232 := fun i hi => by
      obtain ⟨cs', h1, h2⟩ := hel i (by omega)
      obtain ⟨_, hln, hget⟩ := World.cells?_some h1
      obtain ⟨V, hV, hr⟩ := rc_cells h2 (hz.elem Tryz.underlying40 (List.mem_map.2 ⟨i, List.mem_range.2 hi, rfl⟩))
      exact ⟨V, fun j hj => by rw [hget j hj, hV j hj], hr⟩
    have hin : Inhabited (Rc × List Upd) := ⟨(Rc.zero, [])⟩
    obtain ⟨f, hfv⟩ := choose_lt (α := Rc × List Upd) hex
    refine ⟨⟨some a, len, m⟩, (List.range len).map f, hcs, by simp, ?_, hl, by show m * 232 ≤ _; rw [show len + (m - len) = m by omega] at hb; omega⟩
    by_cases hl0 : len = 0
    · subst hl0; exact .inl rfl
    · obtain ⟨b, off, spot⟩ := a
      have hspot : spot = none := by simpa [Addr.add] using World.cell?_spot ((hfv 0 (by omega)).1 0 (by omega))
      subst hspot
      have hadd : ∀ i j, ((⟨b, off, none⟩ : Addr).add (i * 138)).add j = ⟨b, off + i * 138 + j, none⟩ := fun i j => by
        rw [add_add]; unfold Addr.add; split <;> simp_all <;> omega
      refine .inr ⟨b, off, rfl, ?_, fun i s hs => ?_⟩
      · have := (hfv 0 (by omega)).1 0 (by omega)
        rw [hadd] at this
        exact World.block_lt_of_cell? _ _ this
      · have hi' : i < len := by simpa using (List.getElem?_eq_some_iff.1 hs).1
        rw [List.getElem?_map, List.getElem?_range hi'] at hs
        have hs' : f i = s := by simpa using hs
        have := hfv i hi'
        rw [hs'] at this
        refine ⟨fun j hj => ?_, this.2⟩
        have := this.1 j hj
        rw [hadd] at this
        exact this
/-! The arguments themselves. -/
set_option maxRecDepth 100000 in
theorem open_st {base : Nat} {v : Value} {d : DataW H} {p : List MemPlace} (hv : Value.okWide Tryz.prog W .any base 31 v) (h : DataW.Trod enc Tryz.prog W 0 (fun _ => true) true 31 v d p) (hz : Sz 31 d) : ∃ (V : St) (lo lp : List Upd) (ls : List Slot), v = .agg (tabv V.v 115) ∧ StAt W V lo lp ls := by
  simp only [Value.okWide, Tryz.underlying31] at hv
  obtain ⟨cs, rfl, hsz, _⟩ := hv
  rw [cellsNSt] at hsz
  obtain ⟨fuel, hf⟩ := h
  obtain ⟨V, lo, lp, ls, hV, hr⟩ := st_cells hf hz
  refine ⟨V, lo, lp, ls, congrArg Value.agg ?_, hr⟩
  refine tabv_ext _ _ _ hsz fun i hi => ?_
  have := hV i hi
  simpa [Value.cells] using this
set_option maxRecDepth 100000 in
theorem open_rc {base : Nat} {v : Value} {d : DataW H} {p : List MemPlace} (hv : Value.okWide Tryz.prog W .any base 38 v) (h : DataW.Trod enc Tryz.prog W 0 (fun _ => true) true 38 v d p) (hz : Sz 38 d) : ∃ (V : Rc × List Upd), v = .agg (tabv V.1.v 138) ∧ V.2.length = V.1.upds.n ∧ Upds W V.1.upds.ad V.2 ∧ V.1.upds.n ≤ V.1.upds.c ∧ V.1.upds.c * 72 ≤ 140737488351232 := by
  simp only [Value.okWide, Tryz.underlying38] at hv
  obtain ⟨cs, rfl, hsz, _⟩ := hv
  rw [cellsNR] at hsz
  obtain ⟨fuel, hf⟩ := h
  obtain ⟨V, hV, hr⟩ := rc_cells hf hz
  refine ⟨V, congrArg Value.agg ?_, hr⟩
  refine tabv_ext _ _ _ hsz fun i hi => ?_
  have := hV i hi
  simpa [Value.cells] using this
theorem open_updsA {base : Nat} {v : Value} {d : DataW H} {p : List MemPlace} (hv : Value.okWide Tryz.prog W .any base 27 v) (h : DataW.Trod enc Tryz.prog W 0 (fun _ => true) true 27 v d p) (hz : Sz 27 d) : ∃ (s : Sl) (l : List Upd), v = s.v ∧ l.length = s.n ∧ Upds W s.ad l ∧ s.n ≤ s.c ∧ s.c * 72 ≤ 140737488351232 := by
  obtain ⟨fuel, hf⟩ := h
  obtain ⟨s, l, e, hr⟩ := open_updsC hf hz
  refine ⟨s, l, ?_, hr⟩
  obtain ⟨ad, len, cap, rfl⟩ := okWide_slice Tryz.underlying27 hv
  simp [Value.cells, Sl.v] at e
  unfold Sl.v
  rw [e.1, e.2.1, e.2.2]
theorem open_slotsA {base : Nat} {v : Value} {d : DataW H} {p : List MemPlace} (hv : Value.okWide Tryz.prog W .any base 29 v) (h : DataW.Trod enc Tryz.prog W 0 (fun _ => true) true 29 v d p) (hz : Sz 29 d) : ∃ (s : Sl) (l : List Slot), v = s.v ∧ l.length = s.n ∧ Slots W s.ad l ∧ s.n ≤ s.c ∧ s.c * 48 ≤ 140737488351232 := by
  obtain ⟨fuel, hf⟩ := h
  obtain ⟨s, l, e, hr⟩ := open_slotsC hf hz
  refine ⟨s, l, ?_, hr⟩
  obtain ⟨ad, len, cap, rfl⟩ := okWide_slice Tryz.underlying29 hv
  simp [Value.cells, Sl.v] at e
  unfold Sl.v
  rw [e.1, e.2.1, e.2.2]
theorem open_recsA {base : Nat} {v : Value} {d : DataW H} {p : List MemPlace} (hv : Value.okWide Tryz.prog W .any base 40 v) (h : DataW.Trod enc Tryz.prog W 0 (fun _ => true) true 40 v d p) (hz : Sz 40 d) : ∃ (s : Sl) (l : List (Rc × List Upd)), v = s.v ∧ l.length = s.n ∧ Recs W s.ad l ∧ s.n ≤ s.c ∧ s.c * 232 ≤ 140737488351232 := by
  obtain ⟨fuel, hf⟩ := h
  obtain ⟨s, l, e, hr⟩ := open_recsC hf hz
  refine ⟨s, l, ?_, hr⟩
  obtain ⟨ad, len, cap, rfl⟩ := okWide_slice Tryz.underlying40 hv
  simp [Value.cells, Sl.v] at e
  unfold Sl.v
  rw [e.1, e.2.1, e.2.2]
end
end Go.Proofs.YtlohfoggcdaeiaaGreat
