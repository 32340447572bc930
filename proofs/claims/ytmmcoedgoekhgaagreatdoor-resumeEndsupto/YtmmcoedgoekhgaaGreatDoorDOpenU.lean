import Derived.Test.YtmmcoedgoekhgaaGreatDoorRsEnds
import Derived.Test.YtmmcoedgoekhgaaGreatDoorDOpen
import Derived.Test.YtmmcoedgoekhgaaGreatDoorSLaid
import Derived.Test.YtmmcoedgoekhgaaGreatDoorDMsg
import Derived.ProofKit
import Derived.OpenShut
import Derived.SizedLaws
import Derived.Deep.Slices
import Derived.Lib.SmallJoins
/-
  ResumeEnds' walk over the arguments as they are opened.
-/
namespace Go.Proofs.YtmmcoedgoekhgaaGreatDoor
open Go.RowKit S
theorem endsc_walk (c : Cf) (s : St) (lo lp : List Upd) (ls : List Slot) (m : Msg) (w : World) (hG : Glob num w) (hA : StAt w s lo lp ls) (hz : s.ours.n ≤ 1048576) (hm : I64 m.nxt) : Calls Tryz.prog 6 #[.agg (tabv c.v 164), .agg (tabv s.v 115), .agg (tabv m.v 70)] w fun e w' => e = .returned (.bool true) ∧ Below w.heap.size w w' := by
  have h2 := hA.zp
  have h3 := hA.zs
  have h4 := hA.no
  have h5 := hA.np
  have h6 := hA.ns
  exact ends_walk c s m lo lp ls h4 h5 h6 (by omega) (by omega) (by omega) hm hA.rack.2 w hG hA.o hA.p hA.f
end Go.Proofs.YtmmcoedgoekhgaaGreatDoor
/-
  STATES among the arguments, with their bulk (made of DOpen by mkdopenu.py).
-/
namespace Go.Proofs.YtmmcoedgoekhgaaGreatDoor
open Go.ChangeShapes Go.WideShapes Go.ChangeAt Go.RowKit Go.Deep S Go.Joins
set_option linter.unusedVariables false
set_option linter.unusedSimpArgs false
set_option maxRecDepth 100000
set_option maxHeartbeats 8000000
theorem bulk_pos {H : Type} (d : DataW H) : 1 ≤ Rows.uptoBulk d := by
  cases d with
  | lit l => cases l <;> simp [Rows.uptoBulk]
  | _ => simp [Rows.uptoBulk]
theorem bulk_len {H : Type} : ∀ l : List (DataW H), l.length ≤ Rows.uptoBulkAll l
  | [] => by simp [Rows.uptoBulkAll]
  | d :: l => by have := bulk_len l; have := bulk_pos d; simp only [Rows.uptoBulkAll, List.length_cons]; omega
theorem bulk_mem {H : Type} {d : DataW H} : ∀ {l : List (DataW H)}, d ∈ l → Rows.uptoBulk d ≤ Rows.uptoBulkAll l
  | [], h => by cases h
  | e :: l, h => by
    simp only [Rows.uptoBulkAll]
    rcases List.mem_cons.1 h with rfl | h
    · omega
    · have := bulk_mem h; omega
section
variable {H : Type} {enc : TypeId × Value → H} {W : World} {held : Bool}
theorem open_updsCU {fuel : Nat} {cs : List Value} {x : DataW H × List MemPlace} (h : DataW.trod enc Tryz.prog W 0 (fun _ => true) held fuel 27 cs = some x) (hz : Sz 27 x.1) :
    ∃ (s : Sl) (l : List Upd), cs = [s.v] ∧ l.length = s.n ∧ Upds W s.ad l ∧ s.n ≤ s.c ∧ s.c * 72 ≤ 140737488351232 ∧ s.n ≤ Rows.uptoBulk x.1 := by
  rcases open_slice Tryz.underlying27 h with ⟨hcs, hx⟩ | ⟨a, len, cap, m, n, D, Pl, hcs, _, hl, hm, hmm, hx, hel⟩
  · exact ⟨⟨none, 0, 0⟩, [], hcs, rfl, .inl rfl, Nat.le_refl _, by show 0 * _ ≤ _; omega, Nat.zero_le _⟩
  · simp only [if_true] at hmm
    subst hmm
    rw [hx] at hz
    have hb := hz ((((List.range len).map D).length + ((List.range (m - len)).map fun j => D (len + j)).length) * Tryz.prog.bytesOf 34) (by
      unfold DataW.weights
      rw [Tryz.underlying27]
      exact List.mem_cons_self ..)
    rw [bytesNU] at hb
    simp only [List.length_map, List.length_range] at hb
    unfold reachBytes at hb
    rw [cellsNU] at hel
    have hex : ∀ i, i < len → ∃ V : Upd, ∀ j, j < 36 → W.cell? ((a.add (i * 36)).add j) = some (V.v j) := fun i hi => by
      obtain ⟨cs', h1, h2⟩ := hel i (by omega)
      obtain ⟨_, hln, hget⟩ := World.cells?_some h1
      obtain ⟨V, hV⟩ := upd_cells h2
      exact ⟨V, fun j hj => by rw [hget j hj, hV j hj]⟩
    have hin : Inhabited Upd := ⟨Upd.zero⟩
    obtain ⟨f, hfv⟩ := choose_lt (α := Upd) hex
    refine ⟨⟨some a, len, m⟩, (List.range len).map f, hcs, by simp, ?_, hl, by show m * 72 ≤ _; rw [show len + (m - len) = m by omega] at hb; omega, by
      rw [hx]
      have h1 := bulk_len ((List.range len).map D)
      rw [List.length_map, List.length_range] at h1
      show len ≤ Rows.uptoBulkAll _ + Rows.uptoBulkAll _ + 1
      omega⟩
    by_cases hl0 : len = 0
    · subst hl0; exact .inl rfl
    · obtain ⟨b, off, spot⟩ := a
      have hspot : spot = none := by simpa [Addr.add] using World.cell?_spot (hfv 0 (by omega) 0 (by omega))
      subst hspot
      have hadd : ∀ i j, ((⟨b, off, none⟩ : Addr).add (i * 36)).add j = ⟨b, off + i * 36 + j, none⟩ := fun i j => by
        rw [add_add]; unfold Addr.add; split <;> simp_all <;> omega
      refine .inr ⟨b, off, rfl, ?_, fun i s hs j hj => ?_⟩
      · have := hfv 0 (by omega) 0 (by omega)
        rw [hadd] at this
        exact World.block_lt_of_cell? _ _ this
      · have hi' : i < len := by simpa using (List.getElem?_eq_some_iff.1 hs).1
        rw [List.getElem?_map, List.getElem?_range hi'] at hs
        have hs' : f i = s := by simpa using hs
        have := hfv i hi' j hj
        rw [hadd, hs'] at this
        exact this
set_option maxRecDepth 100000 in
theorem st_cellsU {n : Nat} {cs : List Value} {x : DataW H × List MemPlace} (h : DataW.trod enc Tryz.prog W 0 (fun _ => true) held n 32 cs = some x) (hz : Sz 32 x.1) : ∃ (V : St) (lo lp : List Upd) (ls : List Slot), (∀ j, j < 115 → cs[j]? = some (V.v j)) ∧ StAt W V lo lp ls ∧ V.ours.n ≤ Rows.uptoBulk x.1 := by
  obtain ⟨xs, m, _, hx, hl, hlen, hf⟩ := DataW.trod_struct Tryz.underlying32 h
  have hl6 : xs.length = 18 := hlen
  have g : ∀ (i : Nat) (hi : i < xs.length), xs[i]? = some xs[i] := fun i hi => List.getElem?_eq_getElem hi
  rw [hx] at hz
  have f0 : DataW.trod enc Tryz.prog W 0 (fun _ => true) held m 3 ((cs.drop 0).take (Tryz.prog.cellsOf 3)) = some xs[0] := (hf 0 _ rfl).trans (g 0 (by omega))
  rw [cellsN3] at f0
  obtain ⟨z0, e0, _, _⟩ := DataW.trod_int Tryz.underlying3 f0
  have e0 := one_cell e0
  have f1 : DataW.trod enc Tryz.prog W 0 (fun _ => true) held m 2 ((cs.drop 1).take (Tryz.prog.cellsOf 2)) = some xs[1] := (hf 1 _ rfl).trans (g 1 (by omega))
  rw [cellsN2] at f1
  obtain ⟨z1, e1, _, _⟩ := DataW.trod_int Tryz.underlying2 f1
  have e1 := one_cell e1
  have f2 : DataW.trod enc Tryz.prog W 0 (fun _ => true) held m 2 ((cs.drop 2).take (Tryz.prog.cellsOf 2)) = some xs[2] := (hf 2 _ rfl).trans (g 2 (by omega))
  rw [cellsN2] at f2
  obtain ⟨z2, e2, _, _⟩ := DataW.trod_int Tryz.underlying2 f2
  have e2 := one_cell e2
  have f3 : DataW.trod enc Tryz.prog W 0 (fun _ => true) held m 2 ((cs.drop 3).take (Tryz.prog.cellsOf 2)) = some xs[3] := (hf 3 _ rfl).trans (g 3 (by omega))
  rw [cellsN2] at f3
  obtain ⟨z3, e3, _, _⟩ := DataW.trod_int Tryz.underlying2 f3
  have e3 := one_cell e3
  have f4 : DataW.trod enc Tryz.prog W 0 (fun _ => true) held m 27 ((cs.drop 4).take (Tryz.prog.cellsOf 27)) = some xs[4] := (hf 4 _ rfl).trans (g 4 (by omega))
  rw [cellsNUs] at f4
  have hz4 : Sz 27 xs[4].1 := Sz.part hz Tryz.underlying32 (j := 4) (t' := 27) rfl (d := xs[4].1) (by rw [List.getElem?_map, g 4 (by omega)]; rfl)
  obtain ⟨z4, l4, e4, n4, u4, c4, b4, ub4⟩ := open_updsCU f4 hz4
  have e4 := one_cell e4
  have f5 : DataW.trod enc Tryz.prog W 0 (fun _ => true) held m 27 ((cs.drop 5).take (Tryz.prog.cellsOf 27)) = some xs[5] := (hf 5 _ rfl).trans (g 5 (by omega))
  rw [cellsNUs] at f5
  have hz5 : Sz 27 xs[5].1 := Sz.part hz Tryz.underlying32 (j := 5) (t' := 27) rfl (d := xs[5].1) (by rw [List.getElem?_map, g 5 (by omega)]; rfl)
  obtain ⟨z5, l5, e5, n5, u5, c5, b5⟩ := open_updsC f5 hz5
  have e5 := one_cell e5
  have f6 : DataW.trod enc Tryz.prog W 0 (fun _ => true) held m 2 ((cs.drop 6).take (Tryz.prog.cellsOf 2)) = some xs[6] := (hf 6 _ rfl).trans (g 6 (by omega))
  rw [cellsN2] at f6
  obtain ⟨z6, e6, _, r6⟩ := DataW.trod_int Tryz.underlying2 f6
  have e6 := one_cell e6
  have f7 : DataW.trod enc Tryz.prog W 0 (fun _ => true) held m 2 ((cs.drop 7).take (Tryz.prog.cellsOf 2)) = some xs[7] := (hf 7 _ rfl).trans (g 7 (by omega))
  rw [cellsN2] at f7
  obtain ⟨z7, e7, _, r7⟩ := DataW.trod_int Tryz.underlying2 f7
  have e7 := one_cell e7
  have f8 : DataW.trod enc Tryz.prog W 0 (fun _ => true) held m 2 ((cs.drop 8).take (Tryz.prog.cellsOf 2)) = some xs[8] := (hf 8 _ rfl).trans (g 8 (by omega))
  rw [cellsN2] at f8
  obtain ⟨z8, e8, _, r8⟩ := DataW.trod_int Tryz.underlying2 f8
  have e8 := one_cell e8
  have f9 : DataW.trod enc Tryz.prog W 0 (fun _ => true) held m 29 ((cs.drop 9).take (Tryz.prog.cellsOf 29)) = some xs[9] := (hf 9 _ rfl).trans (g 9 (by omega))
  obtain ⟨z9, y9, e9, d9, r9, t9⟩ := cts_in f9
  have f10 : DataW.trod enc Tryz.prog W 0 (fun _ => true) held m 29 ((cs.drop 11).take (Tryz.prog.cellsOf 29)) = some xs[10] := (hf 10 _ rfl).trans (g 10 (by omega))
  obtain ⟨z10, y10, e10, d10, r10, t10⟩ := cts_in f10
  have f11 : DataW.trod enc Tryz.prog W 0 (fun _ => true) held m 29 ((cs.drop 13).take (Tryz.prog.cellsOf 29)) = some xs[11] := (hf 11 _ rfl).trans (g 11 (by omega))
  obtain ⟨z11, y11, e11, d11, r11, t11⟩ := cts_in f11
  have f12 : DataW.trod enc Tryz.prog W 0 (fun _ => true) held m 4 ((cs.drop 15).take (Tryz.prog.cellsOf 4)) = some xs[12] := (hf 12 _ rfl).trans (g 12 (by omega))
  rw [cellsN4] at f12
  obtain ⟨z12, e12, _⟩ := DataW.trod_bool Tryz.underlying4 f12
  have e12 := one_cell e12
  have f13 : DataW.trod enc Tryz.prog W 0 (fun _ => true) held m 24 ((cs.drop 16).take (Tryz.prog.cellsOf 24)) = some xs[13] := (hf 13 _ rfl).trans (g 13 (by omega))
  obtain ⟨z13, y13, e13, d13⟩ := two_in f13
  have f14 : DataW.trod enc Tryz.prog W 0 (fun _ => true) held m 23 ((cs.drop 80).take (Tryz.prog.cellsOf 23)) = some xs[14] := (hf 14 _ rfl).trans (g 14 (by omega))
  obtain ⟨z14, e14⟩ := hash_in f14
  have f15 : DataW.trod enc Tryz.prog W 0 (fun _ => true) held m 30 ((cs.drop 112).take (Tryz.prog.cellsOf 30)) = some xs[15] := (hf 15 _ rfl).trans (g 15 (by omega))
  rw [cellsNSs] at f15
  have hz15 : Sz 30 xs[15].1 := Sz.part hz Tryz.underlying32 (j := 15) (t' := 30) rfl (d := xs[15].1) (by rw [List.getElem?_map, g 15 (by omega)]; rfl)
  obtain ⟨z15, l15, e15, n15, u15, c15, b15⟩ := open_slotsC f15 hz15
  have e15 := one_cell e15
  have f16 : DataW.trod enc Tryz.prog W 0 (fun _ => true) held m 3 ((cs.drop 113).take (Tryz.prog.cellsOf 3)) = some xs[16] := (hf 16 _ rfl).trans (g 16 (by omega))
  rw [cellsN3] at f16
  obtain ⟨z16, e16, _, _⟩ := DataW.trod_int Tryz.underlying3 f16
  have e16 := one_cell e16
  have f17 : DataW.trod enc Tryz.prog W 0 (fun _ => true) held m 2 ((cs.drop 114).take (Tryz.prog.cellsOf 2)) = some xs[17] := (hf 17 _ rfl).trans (g 17 (by omega))
  rw [cellsN2] at f17
  obtain ⟨z17, e17, _, _⟩ := DataW.trod_int Tryz.underlying2 f17
  have e17 := one_cell e17
  refine ⟨⟨z0, z1, z2, z3, z4, z5, z6, z7, z8, z9, y9, z10, y10, z11, y11, z12, z13, y13, z14, z15, z16, z17⟩, l4, l5, l15, fun j hj => ?_, ⟨n4, n5, n15, u4, u5, u15, c4, c5, ?_, ?_, ?_, r11, i64_of r6, i64_of r7, i64_of r8, r10⟩, ?_⟩
  rotate_left
  · show z4.n ≤ _; omega
  · show z5.n ≤ _; omega
  · show z15.n ≤ _; omega
  · rw [hx]
    exact Nat.le_trans ub4 (Nat.le_succ_of_le (bulk_mem (List.mem_of_getElem? (i := 4) (by rw [List.getElem?_map, g 4 (by omega)]; rfl))))
  unfold St.v
  by_cases h : j < 1
  · rw [if_pos h]; rw [show j = 0 by omega]; exact e0
  rw [if_neg h]
  by_cases h : j < 2
  · rw [if_pos h]; rw [show j = 1 by omega]; exact e1
  rw [if_neg h]
  by_cases h : j < 3
  · rw [if_pos h]; rw [show j = 2 by omega]; exact e2
  rw [if_neg h]
  by_cases h : j < 4
  · rw [if_pos h]; rw [show j = 3 by omega]; exact e3
  rw [if_neg h]
  by_cases h : j < 5
  · rw [if_pos h]; rw [show j = 4 by omega]; exact e4
  rw [if_neg h]
  by_cases h : j < 6
  · rw [if_pos h]; rw [show j = 5 by omega]; exact e5
  rw [if_neg h]
  by_cases h : j < 7
  · rw [if_pos h]; rw [show j = 6 by omega]; exact e6
  rw [if_neg h]
  by_cases h : j < 8
  · rw [if_pos h]; rw [show j = 7 by omega]; exact e7
  rw [if_neg h]
  by_cases h : j < 9
  · rw [if_pos h]; rw [show j = 8 by omega]; exact e8
  rw [if_neg h]
  by_cases h : j < 10
  · rw [if_pos h]; rw [show j = 9 by omega]; exact e9
  rw [if_neg h]
  by_cases h : j < 11
  · rw [if_pos h]; rw [show j = 10 by omega]; exact d9
  rw [if_neg h]
  by_cases h : j < 12
  · rw [if_pos h]; rw [show j = 11 by omega]; exact e10
  rw [if_neg h]
  by_cases h : j < 13
  · rw [if_pos h]; rw [show j = 12 by omega]; exact d10
  rw [if_neg h]
  by_cases h : j < 14
  · rw [if_pos h]; rw [show j = 13 by omega]; exact e11
  rw [if_neg h]
  by_cases h : j < 15
  · rw [if_pos h]; rw [show j = 14 by omega]; exact d11
  rw [if_neg h]
  by_cases h : j < 16
  · rw [if_pos h]; rw [show j = 15 by omega]; exact e12
  rw [if_neg h]
  by_cases h : j < 48
  · rw [if_pos h]; have := e13 (j - 16) (by omega); rw [show 16 + (j - 16) = j by omega] at this; exact this
  rw [if_neg h]
  by_cases h : j < 80
  · rw [if_pos h]; have := d13 (j - 48) (by omega); rw [show 48 + (j - 48) = j by omega] at this; exact this
  rw [if_neg h]
  by_cases h : j < 112
  · rw [if_pos h]; have := e14 (j - 80) (by omega); rw [show 80 + (j - 80) = j by omega] at this; exact this
  rw [if_neg h]
  by_cases h : j < 113
  · rw [if_pos h]; rw [show j = 112 by omega]; exact e15
  rw [if_neg h]
  by_cases h : j < 114
  · rw [if_pos h]; rw [show j = 113 by omega]; exact e16
  rw [if_neg h]
  rw [show j = 114 by omega]; exact e17
theorem open_stU {base : Nat} {v : Value} {d : DataW H} {p : List MemPlace} (hv : Value.okWide Tryz.prog W .any base 32 v) (h : DataW.Trod enc Tryz.prog W 0 (fun _ => true) true 32 v d p) (hz : Sz 32 d) : ∃ (V : St) (lo lp : List Upd) (ls : List Slot), v = .agg (tabv V.v 115) ∧ StAt W V lo lp ls ∧ V.ours.n ≤ Rows.uptoBulk d := by
  simp only [Value.okWide, Tryz.underlying32] at hv
  obtain ⟨cs, rfl, hsz, _⟩ := hv
  rw [cellsNSt] at hsz
  obtain ⟨fuel, hf⟩ := h
  obtain ⟨V, lo, lp, ls, hV, hr, hbk⟩ := st_cellsU hf hz
  refine ⟨V, lo, lp, ls, congrArg Value.agg ?_, hr, hbk⟩
  refine tabv_ext _ _ _ hsz fun i hi => ?_
  have := hV i hi
  simpa [Value.cells] using this
end
end Go.Proofs.YtmmcoedgoekhgaaGreatDoor
