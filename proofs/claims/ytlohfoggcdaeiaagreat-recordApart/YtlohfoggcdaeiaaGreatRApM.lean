/-
  RecordApart: three states, nine rows (printed by gen_r28.py).
-/
import Derived.Test.YtlohfoggcdaeiaaGreatRStepM
import Derived.Test.YtlohfoggcdaeiaaGreatRStepM
import Derived.Test.YtlohfoggcdaeiaaGreatROpenA
namespace Go.Proofs.YtlohfoggcdaeiaaGreat
open Go.RowKit S
set_option linter.unusedVariables false
set_option linter.unusedSimpArgs false
open Cu (nb be hl ofL CW Mw CR Mr RS takeS takeA hOf nil8 doneS)
theorem newRowU (w : World) (x : Sl) (l : List Upd) (hx : l.length = x.n) (hS : Upds w x.ad l) (hz : l.length * 72 ≤ 140737488355328) :
    ∃ y wA wB, (Instr.buildSlice 27 0 #[]).run Tryz.prog w = .ok (.slice (some ⟨w.heap.size, 0, none⟩) 0 0) wA ∧ (Builtin.append_ #[27, 27] 27 #[.slice (some ⟨w.heap.size, 0, none⟩) 0 0, .slice x.ad x.n x.c]).run Tryz.prog wA = .ok (.slice y.ad y.n y.c) wB ∧ OwnU w.heap.size wB (Sl.v y) l ∧ Below w.heap.size w wB := by
  obtain ⟨wA, h1, h2, h3⟩ := run_slice0 w
  obtain ⟨v, wB, h4, h5, h6⟩ := run_appUU wA w.heap.size _ [] l x.ad x.c 27 h2 (hS.below h3) (fun e => by
    rcases hS with rfl | ⟨b, o, h, _⟩
    · rfl
    · rw [e] at h; cases h) (by rw [List.length_nil, Nat.zero_add]; exact hz) h3.size
  rw [List.nil_append] at h5
  obtain ⟨y, rfl⟩ := slOf h5
  rw [hx] at h4
  have bb : Below w.heap.size wA wB := ⟨h6.os, h6.tape, h6.output, h6.size, fun k hk => h6.block k (Nat.lt_of_lt_of_le hk h3.size) (fun e => by
    have : (some k : Option Nat) = some w.heap.size := e
    have := Option.some.inj this
    omega)⟩
  exact ⟨y, wA, wB, h1, h4, h5, h3.trans bb⟩
theorem newRowS (w : World) (x : Sl) (l : List Slot) (hx : l.length = x.n) (hS : Slots w x.ad l) (hz : l.length * 48 ≤ 140737488355328) :
    ∃ y wA wB, (Instr.buildSlice 29 0 #[]).run Tryz.prog w = .ok (.slice (some ⟨w.heap.size, 0, none⟩) 0 0) wA ∧ (Builtin.append_ #[29, 29] 29 #[.slice (some ⟨w.heap.size, 0, none⟩) 0 0, .slice x.ad x.n x.c]).run Tryz.prog wA = .ok (.slice y.ad y.n y.c) wB ∧ OwnS w.heap.size wB (Sl.v y) l ∧ Below w.heap.size w wB := by
  obtain ⟨wA, h1, h2, h3⟩ := run_slice0S w
  obtain ⟨v, wB, h4, h5, h6⟩ := run_appSS wA w.heap.size _ [] l x.ad x.c 29 h2 (hS.belowW h3) (fun e => by
    rcases hS with rfl | ⟨b, o, h, _⟩
    · rfl
    · rw [e] at h; cases h) (by rw [List.length_nil, Nat.zero_add]; exact hz) h3.size
  rw [List.nil_append] at h5
  obtain ⟨y, rfl⟩ := slOfS h5
  rw [hx] at h4
  have bb : Below w.heap.size wA wB := ⟨h6.os, h6.tape, h6.output, h6.size, fun k hk => h6.block k (Nat.lt_of_lt_of_le hk h3.size) (fun e => by
    have : (some k : Option Nat) = some w.heap.size := e
    have := Option.some.inj this
    omega)⟩
  exact ⟨y, wA, wB, h1, h4, h5, h3.trans bb⟩
def sA : St := ⟨0, 0, 0, 0, nilS, nilS, 0, 0, 0, 0, 0, 0, 0, 0, 0, false, fun _ => 0, fun _ => 0, fun _ => 0, nilS, 0, -1⟩
set_option maxRecDepth 100000 in
theorem builtSA (x y z : Sl) : Tryz.prog.built 31 [(4, .slice x.ad x.n x.c), (5, .slice y.ad y.n y.c), (15, .slice z.ad z.n z.c), (17, .int .i64 (-1))] = some (tabv (setSl sA x y z).v 115) := by kernel_rfl
def fK (k : Int) : Slot := ⟨k, fun _ => 0, false⟩
set_option maxRecDepth 100000 in
theorem builtFK (k : Int) : Tryz.prog.built 49 [(0, .int .i64 k)] = some (tabv (fK k).v 34) := by kernel_rfl
structure AV (w0 : World) (g9 g10 g11 g13 : Nat) (A Z : St) (y0 y1 y2 a0 a1 a2 b0 b1 b2 : Sl) (lo lp : List Upd) (ls : List Slot) (c0 c1 : List Upd) (c2 : List Slot) (d0 d1 : List Upd) (d2 : List Slot) (w : World) : Prop where
  v9 : Has w g9 31 (setSl sA y0 y1 y2).v 115
  v11 : Has w g11 31 (setSl A a0 a1 a2).v 115
  v13 : Has w g13 31 (setSl Z b0 b1 b2).v 115
  rw : Rws w0.heap.size w [.u y0 lo, .u y1 lp, .f y2 ls, .u a0 c0, .u a1 c1, .f a2 c2, .u b0 d0, .u b1 d1, .f b2 d2] [g9, g10, g11, g13]
  bel : Below w0.heap.size w0 w
  ord : w0.heap.size ≤ g9 ∧ g9 < g10 ∧ g10 < g11 ∧ g11 < g13
section
variable {w0 : World} {g9 g10 g11 g13 : Nat} {A Z : St} {y0 y1 y2 a0 a1 a2 b0 b1 b2 : Sl} {lo lp : List Upd} {ls : List Slot} {c0 c1 : List Upd} {c2 : List Slot} {d0 d1 : List Upd} {d2 : List Slot} {w : World}
theorem AV.low {w' : World} (h : AV w0 g9 g10 g11 g13 A Z y0 y1 y2 a0 a1 a2 b0 b1 b2 lo lp ls c0 c1 c2 d0 d1 d2 w) (hb : Below w.heap.size w w') : AV w0 g9 g10 g11 g13 A Z y0 y1 y2 a0 a1 a2 b0 b1 b2 lo lp ls c0 c1 c2 d0 d1 d2 w' :=
  ⟨h.v9.below hb h.v9.lt, h.v11.below hb h.v11.lt, h.v13.below hb h.v13.lt, h.rw.low hb, h.bel.trans (hb.mono h.bel.size), h.ord⟩
variable [Inhabited S.Tbl]
theorem AV.put3 (h : AV w0 g9 g10 g11 g13 A Z y0 y1 y2 a0 a1 a2 b0 b1 b2 lo lp ls c0 c1 c2 d0 d1 d2 w) {j : Nat} (hj : j < c0.length) : ∃ g f, a0.ad = some ⟨g, 0, none⟩ ∧ Has w g 36 f (a0.c * 36) ∧ a0.n ≤ a0.c ∧ ∀ s : Upd, AV w0 g9 g10 g11 g13 A Z y0 y1 y2 a0 a1 a2 b0 b1 b2 lo lp ls (c0.set j s) c1 c2 d0 d1 d2 (w.setRow g (tabv (splice f (j * 36) s.v 36) (a0.c * 36))) := by
  obtain ⟨g, f, e, hH, hc, hF, hB, hs⟩ := h.rw.put (i := 3) rfl hj
  simp only [List.mem_cons, List.not_mem_nil, or_false, not_or] at hF
  exact ⟨g, f, e, hH, hc, fun s => ⟨h.v9.row_other _ _ (fun x => hF.1 x.symm), h.v11.row_other _ _ (fun x => hF.2.2.1 x.symm), h.v13.row_other _ _ (fun x => hF.2.2.2 x.symm), hs s, below_setRow h.bel hB _, h.ord⟩⟩
theorem AV.put4 (h : AV w0 g9 g10 g11 g13 A Z y0 y1 y2 a0 a1 a2 b0 b1 b2 lo lp ls c0 c1 c2 d0 d1 d2 w) {j : Nat} (hj : j < c1.length) : ∃ g f, a1.ad = some ⟨g, 0, none⟩ ∧ Has w g 36 f (a1.c * 36) ∧ a1.n ≤ a1.c ∧ ∀ s : Upd, AV w0 g9 g10 g11 g13 A Z y0 y1 y2 a0 a1 a2 b0 b1 b2 lo lp ls c0 (c1.set j s) c2 d0 d1 d2 (w.setRow g (tabv (splice f (j * 36) s.v 36) (a1.c * 36))) := by
  obtain ⟨g, f, e, hH, hc, hF, hB, hs⟩ := h.rw.put (i := 4) rfl hj
  simp only [List.mem_cons, List.not_mem_nil, or_false, not_or] at hF
  exact ⟨g, f, e, hH, hc, fun s => ⟨h.v9.row_other _ _ (fun x => hF.1 x.symm), h.v11.row_other _ _ (fun x => hF.2.2.1 x.symm), h.v13.row_other _ _ (fun x => hF.2.2.2 x.symm), hs s, below_setRow h.bel hB _, h.ord⟩⟩
theorem AV.put5 (h : AV w0 g9 g10 g11 g13 A Z y0 y1 y2 a0 a1 a2 b0 b1 b2 lo lp ls c0 c1 c2 d0 d1 d2 w) {j : Nat} (hj : j < c2.length) : ∃ g f, a2.ad = some ⟨g, 0, none⟩ ∧ Has w g 49 f (a2.c * 34) ∧ a2.n ≤ a2.c ∧ ∀ s : Slot, AV w0 g9 g10 g11 g13 A Z y0 y1 y2 a0 a1 a2 b0 b1 b2 lo lp ls c0 c1 (c2.set j s) d0 d1 d2 (w.setRow g (tabv (splice f (j * 34) s.v 34) (a2.c * 34))) := by
  obtain ⟨g, f, e, hH, hc, hF, hB, hs⟩ := h.rw.putS (i := 5) rfl hj
  simp only [List.mem_cons, List.not_mem_nil, or_false, not_or] at hF
  exact ⟨g, f, e, hH, hc, fun s => ⟨h.v9.row_other _ _ (fun x => hF.1 x.symm), h.v11.row_other _ _ (fun x => hF.2.2.1 x.symm), h.v13.row_other _ _ (fun x => hF.2.2.2 x.symm), hs s, below_setRow h.bel hB _, h.ord⟩⟩
theorem AV.push3 (h : AV w0 g9 g10 g11 g13 A Z y0 y1 y2 a0 a1 a2 b0 b1 b2 lo lp ls c0 c1 c2 d0 d1 d2 w) (s : Upd) (hsz : (c0.length + 1) * 72 ≤ 140737488355328) :
    ∃ x' w1 w', (Instr.buildSlice 27 1 #[(0, .agg (tabv s.v 36))]).run Tryz.prog w = .ok (.slice (some ⟨w.heap.size, 0, none⟩) 1 1) w1 ∧ (Builtin.append_ #[27, 27] 27 #[.slice a0.ad a0.n a0.c, .slice (some ⟨w.heap.size, 0, none⟩) 1 1]).run Tryz.prog w1 = .ok (.slice x'.ad x'.n x'.c) w' ∧
      w.cell? ⟨g11, 4, none⟩ = some (.slice a0.ad a0.n a0.c) ∧ w'.cell? ⟨g11, 4, none⟩ = some (.slice a0.ad a0.n a0.c) ∧ w'.frozen? ⟨g11, 4, none⟩ = false ∧ AV w0 g9 g10 g11 g13 A Z y0 y1 y2 (x') a1 a2 b0 b1 b2 lo lp ls (c0 ++ [s]) c1 c2 d0 d1 d2 (w'.setCell ⟨g11, 4, none⟩ (.slice x'.ad x'.n x'.c)) := by
  obtain ⟨x', w1, w', RS, RA, RW, FX, Bp⟩ := h.rw.push (i := 3) rfl s hsz h.bel.size
  have u9 := h.v9.same (FX g9 (by simp))
  have u11 := h.v11.same (FX g11 (by simp))
  have u13 := h.v13.same (FX g13 (by simp))
  have o := h.ord
  refine ⟨x', w1, w', RS, RA, h.v11.cell 4 (by omega), u11.cell 4 (by omega), u11.frozen 4, ⟨u9.other _ _ (by show g9 ≠ g11; omega), ?_, ?_, RW.cell (by simp) _ _, (h.bel.trans Bp).setCell (by show w0.heap.size ≤ g11; omega) _, h.ord⟩⟩
  · exact u11.sOurs x'
  · exact u13.other _ _ (by show g13 ≠ g11; omega)
theorem AV.push4 (h : AV w0 g9 g10 g11 g13 A Z y0 y1 y2 a0 a1 a2 b0 b1 b2 lo lp ls c0 c1 c2 d0 d1 d2 w) (s : Upd) (hsz : (c1.length + 1) * 72 ≤ 140737488355328) :
    ∃ x' w1 w', (Instr.buildSlice 27 1 #[(0, .agg (tabv s.v 36))]).run Tryz.prog w = .ok (.slice (some ⟨w.heap.size, 0, none⟩) 1 1) w1 ∧ (Builtin.append_ #[27, 27] 27 #[.slice a1.ad a1.n a1.c, .slice (some ⟨w.heap.size, 0, none⟩) 1 1]).run Tryz.prog w1 = .ok (.slice x'.ad x'.n x'.c) w' ∧
      w.cell? ⟨g11, 5, none⟩ = some (.slice a1.ad a1.n a1.c) ∧ w'.cell? ⟨g11, 5, none⟩ = some (.slice a1.ad a1.n a1.c) ∧ w'.frozen? ⟨g11, 5, none⟩ = false ∧ AV w0 g9 g10 g11 g13 A Z y0 y1 y2 a0 (x') a2 b0 b1 b2 lo lp ls c0 (c1 ++ [s]) c2 d0 d1 d2 (w'.setCell ⟨g11, 5, none⟩ (.slice x'.ad x'.n x'.c)) := by
  obtain ⟨x', w1, w', RS, RA, RW, FX, Bp⟩ := h.rw.push (i := 4) rfl s hsz h.bel.size
  have u9 := h.v9.same (FX g9 (by simp))
  have u11 := h.v11.same (FX g11 (by simp))
  have u13 := h.v13.same (FX g13 (by simp))
  have o := h.ord
  refine ⟨x', w1, w', RS, RA, h.v11.cell 5 (by omega), u11.cell 5 (by omega), u11.frozen 5, ⟨u9.other _ _ (by show g9 ≠ g11; omega), ?_, ?_, RW.cell (by simp) _ _, (h.bel.trans Bp).setCell (by show w0.heap.size ≤ g11; omega) _, h.ord⟩⟩
  · exact u11.sPeers x'
  · exact u13.other _ _ (by show g13 ≠ g11; omega)
theorem AV.push5 (h : AV w0 g9 g10 g11 g13 A Z y0 y1 y2 a0 a1 a2 b0 b1 b2 lo lp ls c0 c1 c2 d0 d1 d2 w) (s : Slot) (hsz : (c2.length + 1) * 48 ≤ 140737488355328) :
    ∃ x' w1 w', (Instr.buildSlice 29 1 #[(0, .agg (tabv s.v 34))]).run Tryz.prog w = .ok (.slice (some ⟨w.heap.size, 0, none⟩) 1 1) w1 ∧ (Builtin.append_ #[29, 29] 29 #[.slice a2.ad a2.n a2.c, .slice (some ⟨w.heap.size, 0, none⟩) 1 1]).run Tryz.prog w1 = .ok (.slice x'.ad x'.n x'.c) w' ∧
      w.cell? ⟨g11, 112, none⟩ = some (.slice a2.ad a2.n a2.c) ∧ w'.cell? ⟨g11, 112, none⟩ = some (.slice a2.ad a2.n a2.c) ∧ w'.frozen? ⟨g11, 112, none⟩ = false ∧ AV w0 g9 g10 g11 g13 A Z y0 y1 y2 a0 a1 (x') b0 b1 b2 lo lp ls c0 c1 (c2 ++ [s]) d0 d1 d2 (w'.setCell ⟨g11, 112, none⟩ (.slice x'.ad x'.n x'.c)) := by
  obtain ⟨x', w1, w', RS, RA, RW, FX, Bp⟩ := h.rw.pushS (i := 5) rfl s hsz h.bel.size
  have u9 := h.v9.same (FX g9 (by simp))
  have u11 := h.v11.same (FX g11 (by simp))
  have u13 := h.v13.same (FX g13 (by simp))
  have o := h.ord
  refine ⟨x', w1, w', RS, RA, h.v11.cell 112 (by omega), u11.cell 112 (by omega), u11.frozen 112, ⟨u9.other _ _ (by show g9 ≠ g11; omega), ?_, ?_, RW.cell (by simp) _ _, (h.bel.trans Bp).setCell (by show w0.heap.size ≤ g11; omega) _, h.ord⟩⟩
  · exact u11.sShelf x'
  · exact u13.other _ _ (by show g13 ≠ g11; omega)
theorem AV.push6 (h : AV w0 g9 g10 g11 g13 A Z y0 y1 y2 a0 a1 a2 b0 b1 b2 lo lp ls c0 c1 c2 d0 d1 d2 w) (s : Upd) (hsz : (d0.length + 1) * 72 ≤ 140737488355328) :
    ∃ x' w1 w', (Instr.buildSlice 27 1 #[(0, .agg (tabv s.v 36))]).run Tryz.prog w = .ok (.slice (some ⟨w.heap.size, 0, none⟩) 1 1) w1 ∧ (Builtin.append_ #[27, 27] 27 #[.slice b0.ad b0.n b0.c, .slice (some ⟨w.heap.size, 0, none⟩) 1 1]).run Tryz.prog w1 = .ok (.slice x'.ad x'.n x'.c) w' ∧
      w.cell? ⟨g13, 4, none⟩ = some (.slice b0.ad b0.n b0.c) ∧ w'.cell? ⟨g13, 4, none⟩ = some (.slice b0.ad b0.n b0.c) ∧ w'.frozen? ⟨g13, 4, none⟩ = false ∧ AV w0 g9 g10 g11 g13 A Z y0 y1 y2 a0 a1 a2 (x') b1 b2 lo lp ls c0 c1 c2 (d0 ++ [s]) d1 d2 (w'.setCell ⟨g13, 4, none⟩ (.slice x'.ad x'.n x'.c)) := by
  obtain ⟨x', w1, w', RS, RA, RW, FX, Bp⟩ := h.rw.push (i := 6) rfl s hsz h.bel.size
  have u9 := h.v9.same (FX g9 (by simp))
  have u11 := h.v11.same (FX g11 (by simp))
  have u13 := h.v13.same (FX g13 (by simp))
  have o := h.ord
  refine ⟨x', w1, w', RS, RA, h.v13.cell 4 (by omega), u13.cell 4 (by omega), u13.frozen 4, ⟨u9.other _ _ (by show g9 ≠ g13; omega), ?_, ?_, RW.cell (by simp) _ _, (h.bel.trans Bp).setCell (by show w0.heap.size ≤ g13; omega) _, h.ord⟩⟩
  · exact u11.other _ _ (by show g11 ≠ g13; omega)
  · exact u13.sOurs x'
theorem AV.push7 (h : AV w0 g9 g10 g11 g13 A Z y0 y1 y2 a0 a1 a2 b0 b1 b2 lo lp ls c0 c1 c2 d0 d1 d2 w) (s : Upd) (hsz : (d1.length + 1) * 72 ≤ 140737488355328) :
    ∃ x' w1 w', (Instr.buildSlice 27 1 #[(0, .agg (tabv s.v 36))]).run Tryz.prog w = .ok (.slice (some ⟨w.heap.size, 0, none⟩) 1 1) w1 ∧ (Builtin.append_ #[27, 27] 27 #[.slice b1.ad b1.n b1.c, .slice (some ⟨w.heap.size, 0, none⟩) 1 1]).run Tryz.prog w1 = .ok (.slice x'.ad x'.n x'.c) w' ∧
      w.cell? ⟨g13, 5, none⟩ = some (.slice b1.ad b1.n b1.c) ∧ w'.cell? ⟨g13, 5, none⟩ = some (.slice b1.ad b1.n b1.c) ∧ w'.frozen? ⟨g13, 5, none⟩ = false ∧ AV w0 g9 g10 g11 g13 A Z y0 y1 y2 a0 a1 a2 b0 (x') b2 lo lp ls c0 c1 c2 d0 (d1 ++ [s]) d2 (w'.setCell ⟨g13, 5, none⟩ (.slice x'.ad x'.n x'.c)) := by
  obtain ⟨x', w1, w', RS, RA, RW, FX, Bp⟩ := h.rw.push (i := 7) rfl s hsz h.bel.size
  have u9 := h.v9.same (FX g9 (by simp))
  have u11 := h.v11.same (FX g11 (by simp))
  have u13 := h.v13.same (FX g13 (by simp))
  have o := h.ord
  refine ⟨x', w1, w', RS, RA, h.v13.cell 5 (by omega), u13.cell 5 (by omega), u13.frozen 5, ⟨u9.other _ _ (by show g9 ≠ g13; omega), ?_, ?_, RW.cell (by simp) _ _, (h.bel.trans Bp).setCell (by show w0.heap.size ≤ g13; omega) _, h.ord⟩⟩
  · exact u11.other _ _ (by show g11 ≠ g13; omega)
  · exact u13.sPeers x'
theorem AV.push8 (h : AV w0 g9 g10 g11 g13 A Z y0 y1 y2 a0 a1 a2 b0 b1 b2 lo lp ls c0 c1 c2 d0 d1 d2 w) (s : Slot) (hsz : (d2.length + 1) * 48 ≤ 140737488355328) :
    ∃ x' w1 w', (Instr.buildSlice 29 1 #[(0, .agg (tabv s.v 34))]).run Tryz.prog w = .ok (.slice (some ⟨w.heap.size, 0, none⟩) 1 1) w1 ∧ (Builtin.append_ #[29, 29] 29 #[.slice b2.ad b2.n b2.c, .slice (some ⟨w.heap.size, 0, none⟩) 1 1]).run Tryz.prog w1 = .ok (.slice x'.ad x'.n x'.c) w' ∧
      w.cell? ⟨g13, 112, none⟩ = some (.slice b2.ad b2.n b2.c) ∧ w'.cell? ⟨g13, 112, none⟩ = some (.slice b2.ad b2.n b2.c) ∧ w'.frozen? ⟨g13, 112, none⟩ = false ∧ AV w0 g9 g10 g11 g13 A Z y0 y1 y2 a0 a1 a2 b0 b1 (x') lo lp ls c0 c1 c2 d0 d1 (d2 ++ [s]) (w'.setCell ⟨g13, 112, none⟩ (.slice x'.ad x'.n x'.c)) := by
  obtain ⟨x', w1, w', RS, RA, RW, FX, Bp⟩ := h.rw.pushS (i := 8) rfl s hsz h.bel.size
  have u9 := h.v9.same (FX g9 (by simp))
  have u11 := h.v11.same (FX g11 (by simp))
  have u13 := h.v13.same (FX g13 (by simp))
  have o := h.ord
  refine ⟨x', w1, w', RS, RA, h.v13.cell 112 (by omega), u13.cell 112 (by omega), u13.frozen 112, ⟨u9.other _ _ (by show g9 ≠ g13; omega), ?_, ?_, RW.cell (by simp) _ _, (h.bel.trans Bp).setCell (by show w0.heap.size ≤ g13; omega) _, h.ord⟩⟩
  · exact u11.other _ _ (by show g11 ≠ g13; omega)
  · exact u13.sShelf x'
end
end Go.Proofs.YtlohfoggcdaeiaaGreat
