/-
  lent, kept (printed by gen_c12.py).
-/
import Derived.Test.YthcaokiboimibaaCSame
import Derived.Test.YthcaokiboimibaaGLast
import Derived.Test.YthcaokiboimibaaCFirst
namespace Go.Proofs.Ythcaokiboimibaa
open Go.RowKit S
set_option linter.unusedVariables false
set_option linter.unusedSimpArgs false
def mk77 : Pen := ⟨false, -77, 0, fun _ => 0⟩
set_option maxRecDepth 100000 in
theorem built_77 : Try.prog.built 39 [(1, .int .i64 (-77))] = some (tabv mk77.v 35) := by kernel_rfl
theorem OwnP.some_ {B : Nat} {w : World} {v : Value} {l : List Pen} (h : OwnP B w v l) (hl : 0 < l.length) : ∃ g cap, v = .slice (some ⟨g, 0, none⟩) l.length cap ∧ l.length ≤ cap ∧ B ≤ g ∧ g < w.heap.size := by
  have hb := h.lt
  obtain ⟨_, ⟨rfl, hn⟩ | ⟨g, cap, cur, rfl, hb', hg, h1, h2, h3, h4⟩⟩ := h
  · omega
  · exact ⟨g, cap, rfl, h1, (hb g rfl).1, (hb g rfl).2⟩
theorem Pens.left {w : World} {ad : Option Addr} {l t : List Pen} (h : Pens w ad (l ++ t)) : Pens w ad l := by
  rcases h with h | ⟨b, o, h1, h2, h3⟩
  · exact .inl (List.append_eq_nil_iff.1 h).1
  · exact .inr ⟨b, o, h1, h2, fun i s hs => h3 i s (by rw [List.getElem?_append_left (List.getElem?_eq_some_iff.1 hs).1]; exact hs)⟩
theorem run_app_allP (w : World) (ad : Option Addr) (cap : Nat) (l : List Pen) (hS : Pens w ad l) (hz : l.length ≤ 3910000000000) :
    ∃ v' w', (Builtin.append_ #[24, 24] 24 #[.slice none 0 0, .slice ad l.length cap]).run Try.prog w = .ok v' w' ∧ OwnP w.heap.size w' v' l ∧ Below w.heap.size w w' := by
  obtain ⟨i, h1, h2, h3, h4⟩ := infoPP
  cases ad with
  | none =>
    have hl : l = [] := by
      rcases hS with rfl | ⟨b, o, h, _⟩
      · rfl
      · cases h
    subst hl
    refine ⟨.slice none 0 0, w, ?_, OwnP.nil _ _, Below.refl _ _⟩
    simp [Builtin.append_, run_underlying Try.underlying24, sizeOf, typeInfo, h1, Builtin.lenOf, Builtin.firstCells, storeCells, loadCells, loadCellsFrom]
  | some a =>
    obtain ⟨v', w', e1, e2, e3, _⟩ := run_append_own_wide (P := Try.prog) w w.heap.size 24 24 39 i _ 35 56 Try.underlying24 h1 h2 h3 h4 (by rfl) (by omega) (.slice none 0 0) 0 [] (World.ownsRow_nil w _ _ _) a l.length cap (cellsP l) (cellsP_length l)
      (fun j u hj => by
        have hjl : j < l.length * 35 := by have := (List.getElem?_eq_some_iff.1 hj).1; rw [cellsP_length] at this; exact this
        rcases hS with rfl | ⟨b, o, ha, _, h⟩
        · simp at hjl
        · cases ha
          have hk : j / 35 < l.length := by omega
          have hs : l[j / 35]? = some l[j / 35] := List.getElem?_eq_getElem hk
          have hc := h (j / 35) _ hs (j % 35) (by omega)
          have hg := cellsP_get l (j / 35) _ hs (j % 35) (by omega)
          rw [show j / 35 * 35 + j % 35 = j by omega, hj] at hg
          have hadd : (⟨b, o, none⟩ : Addr).add j = ⟨b, o + j, none⟩ := by unfold Addr.add; split <;> simp_all
          rw [hadd, hg]
          unfold Pen.enc
          rw [Array.getElem?_toList, tabv_get _ _ _ (by omega), ← hc, show o + j / 35 * 35 + j % 35 = o + j by omega])
      (fun u hu => by
        unfold cellsP at hu
        obtain ⟨s, _, hs⟩ := List.mem_flatMap.1 hu
        exact s.one u hs) (by unfold maxLen; omega) (by omega) (Nat.le_refl _)
    refine ⟨v', w', e1, ?_, ⟨e3.os, e3.tape, e3.output, e3.size, fun k hk => e3.block k hk (by simp [Value.ownBlock])⟩⟩
    have e2' : w'.ownsRow w.heap.size 39 35 v' (0 + l.length) ([] ++ cellsP l) := e2
    rw [Nat.zero_add, List.nil_append] at e2'
    exact e2'
/-- What lent answers. -/
def LnPost (x y : Int) (l : List Pen) (n : Nat) (w : World) (e : Ending) (w' : World) : Prop := ∃ q cq, e = .returned (.agg (tabv (ledv x y (.slice (some ⟨q, 0, none⟩) n cq)) 3)) ∧ OwnP w.heap.size w' (.slice (some ⟨q, 0, none⟩) (n + 1) cq) (l ++ [mk77]) ∧ n + 1 ≤ cq ∧ Below w.heap.size w w'
theorem lnPost {x y : Int} {l : List Pen} {n : Nat} {w : World} {e : Ending} {w' : World} (q cq : Nat) (h1 : e = .returned (.agg (tabv (ledv x y (.slice (some ⟨q, 0, none⟩) n cq)) 3))) (h2 : OwnP w.heap.size w' (.slice (some ⟨q, 0, none⟩) (n + 1) cq) (l ++ [mk77])) (h3 : n + 1 ≤ cq) (h4 : Below w.heap.size w w') : LnPost x y l n w e w' := ⟨q, cq, h1, h2, h3, h4⟩
set_option maxRecDepth 100000 in
set_option maxHeartbeats 4000000 in
theorem lent_any (x y : Int) (ad : Option Addr) (n cap : Nat) (l : List Pen) (hn : l.length = n) (hz : n ≤ 3000000000000) (w : World) (hS : Pens w ad l) : Calls Try.prog 14 #[.agg (tabv (ledv x y (.slice ad n cap)) 3)] w fun e w' => LnPost x y l n w e w' := by
  obtain ⟨w1, hW1⟩ : ∃ wX, w.alloc (.cells (tabv (ledv x y (.slice ad n cap)) 3) 26) = wX := ⟨_, rfl⟩
  have r1 : Has w1 w.heap.size 26 (ledv x y (.slice ad n cap)) 3 := by rw [← hW1]; exact Has.new w 26 (ledv x y (.slice ad n cap)) 3 _ rfl
  have b1 : Below w.heap.size w w1 := by rw [← hW1]; exact (Below.refl w.heap.size w).alloc (Nat.le_refl _) _
  obtain ⟨w2, hW2⟩ : ∃ z, w1.alloc (.cells #[.int .i64 0, .int .i64 0, .slice none 0 0] 26) = z := ⟨_, rfl⟩
  have r2 : Has w2 w1.heap.size 26 (ledv 0 0 (.slice none 0 0)) 3 := by rw [← hW2, zeroL]; exact Has.new w1 26 _ 3 _ rfl
  have b2 : Below w1.heap.size w1 w2 := by rw [← hW2]; exact (Below.refl _ _).alloc (Nat.le_refl _) _
  have gb : Below w.heap.size w w2 := b1.trans (b2.mono b1.size)
  have k1 := r1.below b2 r1.lt
  have c2 : w2.cell? ⟨w.heap.size, 2, none⟩ = some (.slice ad n cap) := k1.cell 2 (by omega)
  obtain ⟨vm, w3, rA, oA, bA⟩ := run_app_allP w2 ad cap l (hS.below gb) (by omega)
  rw [hn] at rA
  have RA := hide rA
  have HO := hide oA
  have K3 := hide (k1.below bA k1.lt)
  have R3 := hide (r2.below bA r2.lt)
  have gb3 : Below w.heap.size w w3 := gb.trans (bA.mono gb.size)
  have HN := hide hn
  have HSZ : Hid (w2.heap.size ≤ w3.heap.size) := bA.size
  have HZ := hide hz
  have hni : (n : Int) ≤ 3000000000000 := by omega
  have hlg : w.heap.size < w1.heap.size := r1.lt
  have hlg2 : w1.heap.size < w2.heap.size := r2.lt
  clear r1 b1 r2 b2 gb k1 rA oA bA hS hn hz
  go_enter Try.func14, Try.ntmps14
  go_upto_region 2 with fail
  generalize hg1 : w.heap.size = g1 at c2 K3 hlg gb3 ⊢
  generalize hg2 : w1.heap.size = g2 at R3 hlg hlg2 ⊢
  have HG : Hid (g1 < g2 ∧ g2 < w2.heap.size) := ⟨hlg, hlg2⟩
  clear hW1 hW2 hg2 hlg hlg2
  go_upto_region 3 with (first | refine wpList_app rfl _ _ _ rfl RA.out ?_)
  clear c2 RA
  obtain ⟨adm, nm, cm, hvm⟩ := HO.out.form
  subst hvm
  refine wp_region_noPanic ?_
  refine wp_region_T (S := fun wx => Has wx g1 26 (ledv x y (.slice ad n cap)) 3) 9 (by kernel_rfl) (K3.out.below (Below.refl _ _).drew K3.out.lt) (fun hHeld => ?_)
  have OD := hide (HO.out.below (Below.refl _ _).drew)
  have RD := hide (R3.out.below (Below.refl _ _).drew R3.out.lt)
  have GD : Hid (Below g1 w w3.drew) := gb3.drew
  have hsD : w2.heap.size ≤ w3.drew.heap.size := HSZ.out
  generalize hwd : World.drew w3 = wd at hHeld OD RD GD hsD ⊢
  refine takeT 0 (some 8) (.slice adm nm cm) rfl rfl (by kernel_rfl) (by kernel_rfl) (by kernel_rfl) (by kernel_rfl) (by decide) (fun _ _ _ h => h) (by rfl) (fun w hw => by first | rfl | (go_simp; done) | (go_simp; rfl) | (go_simp; omega)) hHeld ?_
  simp only [Act.put, List.setIfInBounds_toArray, List.set_cons_zero, List.set_cons_succ]
  refine takeT 1 (some 9) (.agg (tabv mk77.v 35)) rfl rfl (by kernel_rfl) (by kernel_rfl) (by kernel_rfl) (by kernel_rfl) (by decide) (fun _ _ _ h => h) (by rfl) (fun w hw => run_buildQ w 39 _ rfl [(1, .int .i64 (-77))] (by first | (simp [Act.eval]; done) | rfl) _ built_77) hHeld ?_
  simp only [Act.put, List.setIfInBounds_toArray, List.set_cons_zero, List.set_cons_succ]
  refine takeT 4 (some 12) (.pointer (some ⟨g1, 2, none⟩)) rfl rfl (by kernel_rfl) (by kernel_rfl) (by kernel_rfl) (by kernel_rfl) (by decide) (fun _ _ _ h => h) (by rfl) (fun w hw => by first | rfl | (go_simp; done) | (go_simp; rfl) | (go_simp; omega)) hHeld ?_
  simp only [Act.put, List.setIfInBounds_toArray, List.set_cons_zero, List.set_cons_succ]
  refine takeT 5 (some 13) (.slice ad n cap) rfl rfl (by kernel_rfl) (by kernel_rfl) (by kernel_rfl) (by kernel_rfl) (by decide) (fun _ _ _ h => h) (by rfl) (fun w hw => by have c : w.cell? ⟨g1, 2, none⟩ = some (.slice ad n cap) := hw.cell 2 (by omega); first | (go_simp; done) | (go_simp; rfl)) hHeld ?_
  simp only [Act.put, List.setIfInBounds_toArray, List.set_cons_zero, List.set_cons_succ]
  refine takeT 6 (some 14) (.int .i64 (n : Int)) rfl rfl (by kernel_rfl) (by kernel_rfl) (by kernel_rfl) (by kernel_rfl) (by decide) (fun _ _ _ h => h) (by rfl) (fun w hw => by first | rfl | (go_simp; done) | (go_simp; rfl) | (go_simp; omega)) hHeld ?_
  simp only [Act.put, List.setIfInBounds_toArray, List.set_cons_zero, List.set_cons_succ]
  obtain ⟨v', wq1, wq2, rS, rA, oA, gr, bA⟩ := run_appPW wd w2.heap.size (.slice adm nm cm) l mk77 OD.out (by have := HZ.out; rw [HN.out]; omega) hsD
  obtain ⟨q, cq, hvq, hcq, hq1, hq2⟩ := oA.some_ (by rw [List.length_append]; simp)
  rw [List.length_append, HN.out, List.length_singleton] at hvq hcq
  subst hvq
  have eS : wq1 = wd.alloc (.cells (tabv mk77.v 35) 39) := by
    have := run_sliceP wd mk77
    rw [rS] at this
    simpa using this
  refine readyT 2 (by kernel_rfl) rfl (by rfl) (fun K hK => ?_)
  refine wpRun (v := .slice (some ⟨wd.heap.size, 0, none⟩) 1 1) (w' := wq1) (by simp [execOp, rS, Act.eval, Result.andThen]) ?_
  simp only [Act.put, List.setIfInBounds_toArray, List.set_cons_zero, List.set_cons_succ]
  have hq1' : Has wq1 g1 26 (ledv x y (.slice ad n cap)) 3 := by rw [eS]; exact hHeld.old _
  refine hK.out _ _ (fun _ => hq1') (fun hH => ?_)
  clear hK hH
  refine readyT 3 (by kernel_rfl) rfl (by rfl) (fun K hK => ?_)
  refine wpRun (v := .slice (some ⟨q, 0, none⟩) (n + 1) cq) (w' := wq2) (by simp [execOp, resolve, invoke, builtin, rA, Act.eval, Result.andThen]) ?_
  simp only [Act.put, List.setIfInBounds_toArray, List.set_cons_zero, List.set_cons_succ]
  have hq2' : Has wq2 g1 26 (ledv x y (.slice ad n cap)) 3 := hHeld.same (gr g1 hHeld.lt (fun e => by have := (OD.out.lt g1 e).1; have := HG.out; omega))
  have R9 : Has wq2 g2 26 (ledv 0 0 (.slice none 0 0)) 3 := RD.out.same (gr g2 RD.out.lt (fun e => by have := (OD.out.lt g2 e).1; have := HG.out; omega))
  have G9 : Below g1 w wq2 := GD.out.trans (bA.mono (by have := HG.out; omega))
  refine hK.out _ _ (fun _ => hq2') (fun hH => ?_)
  clear hK hH hHeld hq1'
  have hHeld := hq2'
  have hcqi : (n : Int) + 1 ≤ (cq : Int) := by omega
  have hcq0 : (n : Int) ≤ (cq : Int) := by omega
  refine takeT 7 (some 15) (.slice (some ⟨q, 0, none⟩) n cq) rfl rfl (by kernel_rfl) (by kernel_rfl) (by kernel_rfl) (by kernel_rfl) (by decide) (fun _ _ _ h => h) (by rfl) (fun w hw => by have z0 : (0 : Int) ≤ (n : Int) := (by omega); have z1 := hcq0; have z2 : n ≤ cq := (by omega); first | rfl | (go_simp; done) | (go_simp; rfl) | (go_simp; omega)) hHeld ?_
  simp only [Act.put, List.setIfInBounds_toArray, List.set_cons_zero, List.set_cons_succ]
  refine takeT 8 (some 16) (.pointer (some ⟨g1, 2, none⟩)) rfl rfl (by kernel_rfl) (by kernel_rfl) (by kernel_rfl) (by kernel_rfl) (by decide) (fun _ _ _ h => h) (by rfl) (fun w hw => by first | rfl | (go_simp; done) | (go_simp; rfl) | (go_simp; omega)) hHeld ?_
  simp only [Act.put, List.setIfInBounds_toArray, List.set_cons_zero, List.set_cons_succ]
  have cg : wq2.cell? ⟨g1, 2, none⟩ = some (.slice ad n cap) := hq2'.cell 2 (by omega)
  have fg := hq2'.frozen 2
  have kN := hq2'.openL (.slice (some ⟨q, 0, none⟩) n cq)
  have rN := R9.same (Below.heap_setCell wq2 ⟨g1, 2, none⟩ (.slice (some ⟨q, 0, none⟩) n cq) g2 (by have := HG.out; show g2 ≠ g1; omega))
  have oN := oA.same (fun i hi => Below.heap_setCell wq2 ⟨g1, 2, none⟩ (.slice (some ⟨q, 0, none⟩) n cq) i (by have := (oA.lt i hi).1; have := HG.out; show i ≠ g1; omega))
  have gN : Below g1 w (wq2.setCell ⟨g1, 2, none⟩ (.slice (some ⟨q, 0, none⟩) n cq)) := G9.setCell (show g1 ≤ g1 from Nat.le_refl _) _
  refine readyT 9 (by kernel_rfl) rfl (by rfl) (fun K hK => ?_)
  go_simp
  refine hK.out _ _ (fun x => absurd rfl x) (fun _ => ?_)
  clear hK
  refine ⟨by kernel_rfl, ?_⟩
  refine NoPanic.normal ?_
  generalize hwz : World.setCell wq2 ⟨g1, 2, none⟩ (.slice (some ⟨q, 0, none⟩) n cq) = wz at kN rN oN gN ⊢
  have KN := hide kN
  have RN := hide rN
  have HCQ : Hid (n + 1 ≤ cq) := by show _ ≤ _; omega
  have oF := oN.keep (show Keep (· = g2) wz (wz.setRow g2 (tabv (ledv x y (.slice (some ⟨q, 0, none⟩) n cq)) 3)) from keep_row _ _ _ rfl) (fun i hi e => by have := (oN.lt i hi).1; have := HG.out; omega)
  have gF : Below g1 w (wz.setRow g2 (tabv (ledv x y (.slice (some ⟨q, 0, none⟩) n cq)) 3)) := below_setRow gN (by have := HG.out; omega) _
  have HOF := hide oF
  have HGF := hide gF
  have HBS : Hid (g1 ≤ w2.heap.size) := by show _ ≤ _; have := HG.out; omega
  clear hwz cg fg hq2' hHeld rS rA oA gr bA eS kN rN oN gN oF gF R9 G9 hcqi hcq0 hcq
  go_wp2_with (first | refine wpW_load_at 26 _ rfl (g1) (0) (by rfl) (by rfl) _ 3 _ (KN.out.at_ 0 (by omega) (fun i hi => by rw [Nat.zero_add])) Try.underlying26 rfl infoL ?_ | refine wpList_storeL rfl _ _ rfl rfl g2 x y (.slice (some ⟨q, 0, none⟩) n cq) rfl rfl rfl _ RN.out ?_)
  exact bodyPost_ret (results_cell_row rfl _ _ g2 26 _ (0, 0) _ rfl (RN.out.row _ (ledv x y (.slice (some ⟨q, 0, none⟩) n cq)) rfl) Try.underlying26 rfl (by rw [tabv_size]; exact infoL)) rfl (lnPost q cq rfl (by rw [hg1]; exact HOF.out.mono HBS.out) HCQ.out (by rw [hg1]; exact HGF.out))
set_option maxRecDepth 100000 in
set_option maxHeartbeats 4000000 in
theorem kept_any (x y : Int) (q cq : Nat) (ad : Option Addr) (n cap : Nat) (l : List Pen) (hn : l.length = n) (hz : n ≤ 3000000000000) (hc : n + 1 ≤ cq) (w : World) (h1 : Pens w (some ⟨q, 0, none⟩) (l ++ [mk77])) (h2 : Pens w ad l) : Calls Try.prog 17 #[.agg (tabv (ledv x y (.slice (some ⟨q, 0, none⟩) n cq)) 3), .agg (tabv (ledv x y (.slice ad n cap)) 3)] w fun e w' => e = .returned (.bool true) ∧ Below w.heap.size w w' := by
  obtain ⟨wa, hWa⟩ : ∃ wX, w.alloc (.cells (tabv (ledv x y (.slice (some ⟨q, 0, none⟩) n cq)) 3) 26) = wX := ⟨_, rfl⟩
  have ra : Has wa w.heap.size 26 (ledv x y (.slice (some ⟨q, 0, none⟩) n cq)) 3 := by rw [← hWa]; exact Has.new w 26 (ledv x y (.slice (some ⟨q, 0, none⟩) n cq)) 3 _ rfl
  have ba : Below w.heap.size w wa := by rw [← hWa]; exact (Below.refl w.heap.size w).alloc (Nat.le_refl _) _
  obtain ⟨w1, hW1⟩ : ∃ wX, wa.alloc (.cells (tabv (ledv x y (.slice ad n cap)) 3) 26) = wX := ⟨_, rfl⟩
  have r1 : Has w1 wa.heap.size 26 (ledv x y (.slice ad n cap)) 3 := by rw [← hW1]; exact Has.new wa 26 (ledv x y (.slice ad n cap)) 3 _ rfl
  have b1 : Below wa.heap.size wa w1 := by rw [← hW1]; exact (Below.refl wa.heap.size wa).alloc (Nat.le_refl _) _
  have gb : Below w.heap.size w w1 := ba.trans (b1.mono ba.size)
  have k1 := ra.below b1 ra.lt
  have H1 := hide (h1.below gb)
  have H2 := hide (h2.below gb)
  have a2 : w1.cell? ⟨w.heap.size, 2, none⟩ = some (.slice (some ⟨q, 0, none⟩) n cq) := k1.cell 2 (by omega)
  have e2 : w1.cell? ⟨wa.heap.size, 2, none⟩ = some (.slice ad n cap) := r1.cell 2 (by omega)
  have KA := hide k1
  have KB := hide r1
  have HN := hide hn
  have HZ := hide hz
  have hni : (n : Int) ≤ 3000000000000 := by omega
  have hci : (n : Int) + 1 ≤ (cq : Int) := by omega
  have hcn : n + 1 ≤ cq := hc
  clear ra ba r1 b1 k1 h1 h2 hn hz hc
  go_enter Try.func17, Try.ntmps17
  go_upto_region 1 with fail
  generalize hg1 : w.heap.size = g1 at a2 KA gb ⊢
  generalize hg2 : wa.heap.size = g2 at e2 KB ⊢
  have HGB := hide gb
  clear hWa hW1 hg2 gb
  go_wp2_with (first | refine wpW_load_at 26 _ rfl (g1) (0) (by rfl) (by rfl) _ 3 _ (KA.out.at_ 0 (by omega) (fun i hi => by rw [Nat.zero_add])) Try.underlying26 rfl infoL ?_ | refine wpW_load_at 26 _ rfl (g2) (0) (by rfl) (by rfl) _ 3 _ (KB.out.at_ 0 (by omega) (fun i hi => by rw [Nat.zero_add])) Try.underlying26 rfl infoL ?_ | fail)
  refine (same_any x y x y (some ⟨q, 0, none⟩) ad n cq n cap l l HN.out HN.out (by have := HZ.out; omega) (by have := HZ.out; omega) _ H1.out.left H2.out).mono ?_
  rintro e w2 ⟨R, rfl, hR, hb2⟩
  obtain rfl : R = true := hR.2 ⟨rfl, rfl, eqL_refl l⟩
  have e3 : w2.cell? ⟨g2, 2, none⟩ = some (.slice ad n cap) := (hb2.cell (World.block_lt_of_cell? _ _ e2)).trans e2
  have hlast : (l ++ [mk77])[n]? = some mk77 := by rw [← HN.out, List.getElem?_append_right (Nat.le_refl _), Nat.sub_self]; rfl
  obtain ⟨b', o', hbo, hb9, hA9⟩ := (H1.out.below hb2).get n mk77 hlast
  obtain ⟨rfl, rfl⟩ : q = b' ∧ 0 = o' := by simpa using hbo
  rw [Nat.zero_add] at hA9
  have HA9 := hide hA9
  have gb2 : Below g1 w w2 := HGB.out.trans (hb2.mono (by have := KA.out.lt; omega))
  have hn0 : (0 : Int) ≤ (n : Int) := by omega
  have hn1 : (n : Int) < (n : Int) + 1 := by omega
  have HEQ : Hid (∀ w : World, (Op.equalIn 10000 39 (.agg (tabv mk77.v 35)) (.agg (tabv mk77.v 35))).run Try.prog w = .ok true w) := fun w => by rw [eqPD, eqP_refl]
  clear hR hb2 e2 a2 hlast hA9 hbo hb9 KA KB
  go_wp2_with (first | refine wpW_load_at 39 _ rfl (q) (n * 35) (by rfl) (by rfl) _ 35 _ (HA9.out) Try.underlying39 rfl infoP ?_ | refine wpW_build (by rfl) 39 #[(1, .const (.int .i64 (-77)))] rfl [(1, .int .i64 (-77))] (by first | rfl | (simp [Act.eval, Act.put]; done)) _ built_77 ?_ | refine wpW_run (by rfl) (.bool true) (run_eqP _ (.tmp 22) (.tmp 23) mk77 mk77 true rfl (by rfl) (by rfl) HEQ.out) ?_)
  go_ret
  exact ⟨rfl, by first | exact gb2 | (rw [hg1]; exact gb2)⟩
end Go.Proofs.Ythcaokiboimibaa
