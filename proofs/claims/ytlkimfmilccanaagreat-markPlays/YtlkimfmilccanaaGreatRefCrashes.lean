import Derived.Test.YtlkimfmilccanaaGreatRefBehind
import Derived.Test.YtlkimfmilccanaaGreatRefTrunc
/-
  The document's disk: Crash, On, New.
-/
namespace Go.Proofs.YtlkimfmilccanaaGreat
open Go.RowKit Go.Maps Go.WideMaps
set_option linter.unusedVariables false
set_option linter.unusedSimpArgs false
section
variable {w w1 w2 : World} {r : Nat} {s : RS} {xs : List RF} {S : Nat → Prop} {A : AD}
def crashP (l : List AFate) (p : Key × AF) : Key × AF := (p.1, p.2.crash (fateOf l p.1))
theorem rc_1 (h : RC w r s) (ad : Option Addr) (n c : Nat) : RC (w.setCell ⟨r, 1, none⟩ (.slice ad n c)) r { s with ad := ad, n := n, c := c } := by
  unfold RC; rw [heap_setCell_same w r 1 _ _ _ h]; rfl
set_option maxRecDepth 5000 in
set_option maxHeartbeats 4000000 in
theorem rCrash_any (h : RefAt w r s xs S) (hr : RRel s xs A) (hok : A.Ok) (ad2 : Option Addr) (cap2 : Nat) (ls : List FT) (hfa : FatesAt w ad2 ls) (hfl : ls.length ≤ 9223372036854775807) : Calls Tryz.prog 56 #[.pointer (some ⟨r, 0, none⟩), .slice ad2 ls.length cap2] w fun e w' => e = .returned (.tuple #[]) ∧ ∃ s' xs' S', RefAt w' r s' xs' S' ∧ RRel s' xs' (A.crash (ls.map FT.abs)) ∧ Step S S' w w' := by
  have c5 : w.cell? ⟨r, 5, none⟩ = some (.bool A.pow.off) := by rw [← hr.pow.off]; exact h.c 5
  have c6 : w.cell? ⟨r, 6, none⟩ = some (.bool A.pow.opn) := by rw [← hr.pow.opn]; exact h.c 6
  have HH := hide h
  have HR := hide hr
  unfold AD.crash
  by_cases hq : A.pow.off = true ∧ A.pow.opn = false
  · rw [if_pos hq]
    rw [hq.1] at c5
    rw [hq.2] at c6
    clear h hr hok hfa hq
    go_enter Tryz.func56, Tryz.ntmps56
    go_wp2
    (try simp only [Exit.inBlock, Exit.then])
    refine bodyPost_ret (results_none rfl _ _ _) rfl ?_
    exact ⟨rfl, s, xs, S, HH.out, HR.out, Step.refl _ _⟩
  · rw [if_neg hq]
    have hl : xs.length ≤ 16 := by have := hok.few; rw [hr.fs, List.length_map] at this; exact this
    have HFO : Hid (∀ x ∈ xs, x.abs.2.Ok) := fun x hx => hok.files x.abs (by rw [hr.fs]; exact List.mem_map.2 ⟨x, hx, rfl⟩)
    obtain ⟨B, hB⟩ : ∃ B, w.heap.size = B := ⟨_, rfl⟩
    have HBE := hide hB
    obtain ⟨ad, had⟩ : ∃ ad, s.ad = ad := ⟨_, rfl⟩
    have hlt : r < B := by rw [← hB]; exact h.lt r h.self
    have HC1 : Hid (∀ w', Below B w w' → w'.cell? ⟨r, 1, none⟩ = some (.slice ad xs.length s.c)) := fun w' hb => by
      rw [← hr.n, ← had]
      exact (World.cell?_of_block (hb.block r hlt)).trans (h.c 1)
    have HF : Hid (∀ w', Below B w w' → Files w' ad xs) := fun w' hb => by rw [← had]; exact h.files.below (by rw [hB]; exact hb)
    have HFA : Hid (∀ w', Below B w w' → FatesAt w' ad2 ls) := fun w' hb => by
      by_cases he : ls = []
      · exact .inl he
      · rcases hfa with h | ⟨b, o, ha, hl, hc⟩
        · exact absurd h he
        · exact .inr ⟨b, o, ha, Nat.lt_of_lt_of_le hl hb.size, fun i hi j hj => by rw [← hc i hi j hj]; exact World.cell?_of_block (hb.block b (by rw [← hB]; exact hl))⟩
    have HFZ : Hid (∀ w', Below B w w' → RC w' r s) := fun w' hb => by unfold RC; rw [hb.block r hlt]; exact h.cells
    have HFIN : Hid (∀ (w' : World) (ys : List RF) (v : Value), Below B w w' → w'.ownsRow B 147 4 v ys.length (cellsF ys) → ys.map RF.abs = (xs.map RF.abs).map (crashP (ls.map FT.abs)) → (∀ y ∈ ys, y.ds = []) → ∃ s' xs' S', RefAt (((((w'.setCell ⟨r, 1, none⟩ v).setCell ⟨r, 2, none⟩ (.int .i64 0)).setCell ⟨r, 4, none⟩ (.int .i64 0)).setCell ⟨r, 5, none⟩ (.bool true)).setCell ⟨r, 6, none⟩ (.bool false)) r s' xs' S' ∧ RRel s' xs' ⟨A.cap, A.fs.map (fun p => (p.1, p.2.crash (fateOf (ls.map FT.abs) p.1))), ⟨true, false, 0, 0, 0⟩⟩ ∧ Step S S' w (((((w'.setCell ⟨r, 1, none⟩ v).setCell ⟨r, 2, none⟩ (.int .i64 0)).setCell ⟨r, 4, none⟩ (.int .i64 0)).setCell ⟨r, 5, none⟩ (.bool true)).setCell ⟨r, 6, none⟩ (.bool false))) := fun w' ys v hb ho ha hd => by
      rw [← hB] at hb ho
      obtain ⟨adv, cv, S', rfl, h1, hst⟩ := h.list w' hb ho (fun y hy => by rw [hd y hy]; exact .inl rfl) (fun y hy hne => absurd (hd y hy) hne)
      obtain ⟨h2, t2⟩ := h1.field 2 (.int .i64 0) { s with ad := adv, n := ys.length, c := cv, arm := 0 } rfl rfl
      obtain ⟨h3, t3⟩ := h2.field 4 (.int .i64 0) { s with ad := adv, n := ys.length, c := cv, arm := 0, fall := 0 } rfl rfl
      obtain ⟨h4, t4⟩ := h3.field 5 (.bool true) { s with ad := adv, n := ys.length, c := cv, arm := 0, fall := 0, off := true } rfl rfl
      obtain ⟨h5, t5⟩ := h4.field 6 (.bool false) { s with ad := adv, n := ys.length, c := cv, arm := 0, fall := 0, off := true, opn := false } rfl rfl
      refine ⟨_, ys, S', h5, ⟨rfl, hr.cap, ⟨rfl, rfl, rfl, rfl, fun hx => absurd hx (by show ¬ (0 : Int) < 0; omega)⟩, ?_, fun y hy => ?_⟩, (((hst.trans (step_self h1 t2)).trans (step_self h2 t3)).trans (step_self h3 t4)).trans (step_self h4 t5)⟩
      · rw [ha, ← hr.fs]; rfl
      · rw [hd y hy]
        show [] = dirtyI ⟨y.seen.data.toList, y.safe.data.toList, fun s => y.ds.contains (s : Int)⟩
        rw [hd y hy]
        exact (dirtyI_none _ _).symm
    have HDS := hide hr.ds
    have hgo : (A.pow.off = false) ∨ (A.pow.off = true ∧ A.pow.opn = true) := by
      cases h1 : A.pow.off with
      | false => exact .inl rfl
      | true => cases h2 : A.pow.opn with
        | false => exact absurd ⟨h1, h2⟩ hq
        | true => exact .inr ⟨rfl, rfl⟩
    clear h hr hok hfa hB had hq
    go_enter Tryz.func56, Tryz.ntmps56
    go_upto_region 0 with fail
    go_cut [16] from 6 (fun s16 wx => s16 = .bool false ∧ wx = w)
    case first =>
      rcases hgo with h1 | ⟨h1, h2⟩
      · rw [h1] at c5
        go_wp2_with fail
        go_meet
        exact ⟨rfl, rfl⟩
      · rw [h1] at c5
        rw [h2] at c6
        go_wp2_with fail
        go_meet
        exact ⟨rfl, rfl⟩
    case rest =>
    obtain ⟨rfl, hcut2⟩ := hcut
    have hcw : w = wc := hcut2.symm
    subst hcw
    clear hcut2 hgo c5 c6
    go_wp2
    go_loopw [4, 5] (fun v i wr => ∃ (k : Nat) (ys : List RF) (vo : Value), vo = v ∧ k ≤ xs.length ∧ i = .int .i64 (k : Int) ∧ ys.length = k ∧ ys.map RF.abs = ((xs.take k).map RF.abs).map (crashP (ls.map FT.abs)) ∧ (∀ y ∈ ys, y.ds = []) ∧ wr.ownsRow B 147 4 vo ys.length (cellsF ys) ∧ Below B w wr) (fun _ i _ => xs.length - (intOf i).toNat)
    case atStart => exact ⟨0, [], _, rfl, by omega, rfl, rfl, rfl, by simp, World.ownsRow_nil _ _ _ _, Below.refl _ _⟩
    case round =>
      obtain ⟨k, ys, vo, rfl, hk, rfl, hyl, hya, hyd, hown, hbr⟩ := hrel
      have c1 := HC1.out wr hbr
      by_cases hlt2 : k < xs.length
      · have dk : decide ((k : Int) < (xs.length : Int)) = true := decide_eq_true (by omega)
        have hk0 : (0 : Int) ≤ (k : Int) := by omega
        have hk1 : (k : Int) < (xs.length : Int) := by omega
        have hfr := HF.out wr hbr
        obtain ⟨b, o, rfl, hbl, hcs⟩ := hfr.cells hlt2
        have hsn := take_snoc xs k hlt2
        obtain ⟨x, hx⟩ : ∃ x, xs[k] = x := ⟨_, rfl⟩
        have hxm : x ∈ xs := by rw [← hx]; exact List.getElem_mem hlt2
        rw [hx] at hcs hsn
        have f0 : wr.cell? ⟨b, o + k * 4, none⟩ = some (.string x.name) := hcs 0 (by omega)
        have f1 : wr.cell? ⟨b, o + k * 4 + 1, none⟩ = some (.string x.seen) := hcs 1 (by omega)
        have f2 : wr.cell? ⟨b, o + k * 4 + 2, none⟩ = some (.string x.safe) := hcs 2 (by omega)
        have f3 : wr.cell? ⟨b, o + k * 4 + 3, none⟩ = some (.slice x.ad x.ds.length x.cap) := hcs 3 (by omega)
        have hbe := rBehind_any wr x x.abs.2 (HFO.out x hxm) rfl (HDS.out x hxm) (hfr.dirty x hxm) ad2 cap2 ls (HFA.out wr hbr) hfl
        unfold RF.cs at hbe
        have HYA := hide hya
        have HYD := hide hyd
        have HOW := hide hown
        have HBR := hide hbr
        have HSN := hide hsn
        clear hya hyd hown hbr hsn hcs hx hxm hfr hbl
        go_wp2_with fail
        refine hbe.mono ?_
        rintro e w6 ⟨Y, rfl, hYl, hb⟩
        have hB6 := HBR.out.trans (hb.mono (by rw [← HBE.out]; exact HBR.out.size))
        have ho6 : w6.ownsRow B 147 4 vo ys.length (cellsF ys) := row_same HOW.out (fun b hb' => hb.block b (World.ownsRow.lt HOW.out b hb').2)
        obtain ⟨g1, hg1⟩ : ∃ g, w6.heap.size = g := ⟨_, rfl⟩
        obtain ⟨y, hy⟩ : ∃ y : RF, y = ⟨x.name, Y, Y, none, 0, []⟩ := ⟨_, rfl⟩
        obtain ⟨wa, hwa⟩ : ∃ w1, w6.alloc (.cells y.cs 147) = w1 := ⟨_, rfl⟩
        obtain ⟨v2, w7, hap, hr7, hb7⟩ := app_file ho6 (by rw [← HBE.out]; exact hB6.size) (by omega) y 109 hwa hg1
        have hyab : y.abs = crashP (ls.map FT.abs) x.abs := by
          rw [hy]
          show (x.name.data.toList, (⟨Y.data.toList, Y.data.toList, fun s => ([] : List Int).contains (s : Int)⟩ : AF)) = _
          rw [hYl]
          rfl
        have HYA2 : Hid ((ys ++ [y]).map RF.abs = ((xs.take (k + 1)).map RF.abs).map (crashP (ls.map FT.abs))) := by
          show _ = _
          rw [HSN.out, List.map_append, List.map_append, List.map_append, HYA.out]
          show _ ++ [y.abs] = _ ++ [crashP _ x.abs]
          rw [hyab]
        have HYD2 : Hid (∀ z ∈ ys ++ [y], z.ds = []) := fun z hz => by
          rcases List.mem_append.1 hz with hz | hz
          · exact HYD.out z hz
          · rw [List.mem_singleton.1 hz, hy]
        have HLN : Hid ((ys ++ [y]).length = k + 1) := by show _ = _; rw [List.length_append, hyl]; rfl
        have HO7 := hide hr7
        have HB7 := hide (hB6.trans hb7)
        rw [hy] at hwa
        unfold RF.cs at hwa
        simp only [List.length_nil] at hwa
        clear hbe hYl hb hB6 ho6 hy hr7 hb7 hyab
        go_wp2_with (at_builtin; refine wpList_app rfl _ _ _ rfl hap ?_; try go_frame)
        go_roundw
        case rel => exact ⟨k + 1, ys ++ [y], _, rfl, by omega, by go_num, HLN.out, HYA2.out, HYD2.out, HO7.out, HB7.out⟩
        case measure => simp [intOf]; omega
      · have hkl : k = xs.length := by omega
        subst hkl
        have dk : decide ((xs.length : Int) < (xs.length : Int)) = false := decide_eq_false (by omega)
        rw [List.take_length] at hya
        have hcr := HFZ.out wr hbr
        obtain ⟨adv, cv, hv, _, _, _⟩ := own_at hown
        have hfin := HFIN.out wr ys vo hbr hown hya hyd
        subst hv
        have e1 : wr.frozen? ⟨r, 1, none⟩ = false := frozen_of_row wr r 1 _ _ hcr
        have e2 : wr.frozen? ⟨r, 2, none⟩ = false := frozen_of_row wr r 2 _ _ hcr
        have e4 : wr.frozen? ⟨r, 4, none⟩ = false := frozen_of_row wr r 4 _ _ hcr
        have e5 : wr.frozen? ⟨r, 5, none⟩ = false := frozen_of_row wr r 5 _ _ hcr
        have e6 : wr.frozen? ⟨r, 6, none⟩ = false := frozen_of_row wr r 6 _ _ hcr
        have q2 : wr.cell? ⟨r, 2, none⟩ = some (.int .i64 s.arm) := by rw [cell_of_row wr r 2 _ _ (0, 0) hcr]; rfl
        have q4 : wr.cell? ⟨r, 4, none⟩ = some (.int .i64 s.fall) := by rw [cell_of_row wr r 4 _ _ (0, 0) hcr]; rfl
        have q5 : wr.cell? ⟨r, 5, none⟩ = some (.bool s.off) := by rw [cell_of_row wr r 5 _ _ (0, 0) hcr]; rfl
        have q6 : wr.cell? ⟨r, 6, none⟩ = some (.bool s.opn) := by rw [cell_of_row wr r 6 _ _ (0, 0) hcr]; rfl
        have HFI := hide hfin
        clear hown hbr hcr hya hyd hfin hyl
        go_wp2
        go_end0
        exact ⟨rfl, HFI.out⟩
set_option maxRecDepth 5000 in
theorem rOn_any (h : RefAt w r s xs S) (hr : RRel s xs A) (hok : A.Ok) : Calls Tryz.prog 57 #[.pointer (some ⟨r, 0, none⟩)] w fun e w' => e = .returned (.tuple #[]) ∧ ∃ s' xs' S', RefAt w' r s' xs' S' ∧ RRel s' xs' A.on ∧ Step S S' w w' := by
  have c6 : w.cell? ⟨r, 6, none⟩ = some (.bool A.pow.opn) := by rw [← hr.pow.opn]; exact h.c 6
  have c5 : w.cell? ⟨r, 5, none⟩ = some (.bool s.off) := h.c 5
  have f5 := h.fz 5
  have hcr := rCrash_any h hr hok none 0 [] (.inl rfl) (by decide)
  have HH := hide h
  have HR := hide hr
  clear h hr hok
  unfold AD.on
  cases ho : A.pow.opn with
  | false =>
    rw [ho] at c6
    clear hcr ho
    go_enter Tryz.func57, Tryz.ntmps57
    go_wp2
    go_end0
    obtain ⟨h1, t1⟩ := HH.out.field 5 (.bool false) { s with off := false } rfl rfl
    exact ⟨rfl, _, xs, S, h1, ⟨HR.out.n, HR.out.cap, ⟨HR.out.pow.arm, HR.out.pow.fall, rfl, HR.out.pow.opn, HR.out.pow.what⟩, HR.out.fs, HR.out.ds⟩, step_self HH.out t1⟩
  | true =>
    rw [ho] at c6
    clear ho
    go_enter Tryz.func57, Tryz.ntmps57
    go_wp2_with fail
    refine hcr.mono ?_
    rintro e w1 ⟨rfl, s1, xs1, S1, h1, hr1, hst1⟩
    have d5 : w1.cell? ⟨r, 5, none⟩ = some (.bool s1.off) := h1.c 5
    have g5 := h1.fz 5
    have H1 := hide h1
    have HR1 := hide hr1
    have HS1 := hide hst1
    clear hcr h1 hr1 hst1 c5 c6 f5
    go_wp2
    go_end0
    obtain ⟨h2, t2⟩ := H1.out.field 5 (.bool false) { s1 with off := false } rfl rfl
    exact ⟨rfl, _, xs1, S1, h2, ⟨HR1.out.n, HR1.out.cap, ⟨HR1.out.pow.arm, HR1.out.pow.fall, rfl, HR1.out.pow.opn, HR1.out.pow.what⟩, HR1.out.fs, HR1.out.ds⟩, HS1.out.trans (step_self H1.out t2)⟩
end
theorem rNew_bad (w : World) (cap : Int) (h : cap < 0 ∨ 16777216 < cap) : Calls Tryz.prog 29 #[.int .i64 cap] w fun e w' => e = .returned (.tuple #[.pointer none, .int .i64 1]) ∧ w' = w := by
  by_cases h1 : cap < 0
  · have d1 : decide (cap < 0) = true := decide_eq_true h1
    clear h h1
    go_enter Tryz.func29, Tryz.ntmps29
    go_wp2
    go_ret2
    exact ⟨rfl, rfl⟩
  · have d1 : decide (cap < 0) = false := decide_eq_false h1
    have d2 : decide (16777216 < cap) = true := decide_eq_true (by omega)
    clear h h1
    go_enter Tryz.func29, Tryz.ntmps29
    go_wp2
    go_ret2
    exact ⟨rfl, rfl⟩
theorem rNew_good (w : World) (cap : Int) (h0 : 0 ≤ cap) (h1 : cap ≤ 16777216) : Calls Tryz.prog 29 #[.int .i64 cap] w fun e w' => e = .returned (.tuple #[.pointer (some ⟨w.heap.size, 0, none⟩), .int .i64 0]) ∧ (∃ s, RefAt w' w.heap.size s [] (fun b => b = w.heap.size) ∧ RRel s [] (AD.fresh cap)) ∧ Below w.heap.size w w' := by
  have d1 : decide (cap < 0) = false := decide_eq_false (by omega)
  have d2 : decide (16777216 < cap) = false := decide_eq_false (by omega)
  obtain ⟨g, hg⟩ : ∃ g, w.heap.size = g := ⟨_, rfl⟩
  obtain ⟨w3, hw3⟩ : ∃ w3, w.alloc (.cells #[.int .i64 cap, .slice none 0 0, .int .i64 0, .int .i64 0, .int .i64 0, .bool false, .bool false] 111) = w3 := ⟨_, rfl⟩
  have hb3 : Below w.heap.size w w3 := by rw [← hw3]; exact (Below.refl _ _).alloc (Nat.le_refl _) _
  have hk3 : w3.heap[g]? = some (.cells #[.int .i64 cap, .slice none 0 0, .int .i64 0, .int .i64 0, .int .i64 0, .bool false, .bool false] 111 (0, 0)) := by rw [← hw3, ← hg]; exact heap_alloc_new w _
  have HB3 := hide hb3
  have HFI : Hid (∃ s, RefAt w3 g s [] (fun b => b = g) ∧ RRel s [] (AD.fresh cap)) := ⟨⟨cap, none, 0, 0, 0, 0, 0, false, false⟩, ⟨hk3, ⟨.inl rfl, by simp⟩, fun b hb => by rw [hb]; exact lt_of_some hk3, rfl, fun b hb => by rcases hb with ⟨hx, _⟩ | ⟨x, hx, _⟩ <;> simp at hx⟩, ⟨rfl, rfl, ⟨rfl, rfl, rfl, rfl, fun hx => absurd hx (by show ¬ (0 : Int) < 0; omega)⟩, rfl, by simp⟩⟩
  rw [hg] at HB3 ⊢
  clear hb3 hk3
  go_enter Tryz.func29, Tryz.ntmps29
  go_wp2
  go_ret2
  exact ⟨rfl, HFI.out, HB3.out⟩
/-! ### among the items -/
section
variable {B : Nat} {w : World} {L : List Item} {i r : Nat} {A : AD}
theorem r_write (h : Lies B w L) (hi : L[i]? = some (.ref r A)) (hok : A.Ok) (t : ByteArray) (hz : t.size ≤ maxLen) (a : Int) (ha : -9223372036854775808 ≤ a ∧ a < 9223372036854775808) (u : ByteArray) (hu : u.size ≤ 140737488355328) :
    Calls Tryz.prog 58 #[.pointer (some ⟨r, 0, none⟩), .string t, .int .i64 a, .string u] w fun e w' => e = .returned (.int .i64 (A.write t.data.toList a u.data.toList).1) ∧ Lies B w' (L.set i (.ref r (A.write t.data.toList a u.data.toList).2)) ∧ Below B w w' :=
  h.rcall (R := fun e => e = _) hi (fun s xs S hr hrel _ => rWrite_any hr hrel hok t hz a ha u hu)
theorem r_sync (h : Lies B w L) (hi : L[i]? = some (.ref r A)) (hok : A.Ok) (t : ByteArray) :
    Calls Tryz.prog 88 #[.pointer (some ⟨r, 0, none⟩), .string t] w fun e w' => e = .returned (.int .i64 (A.sync t.data.toList).1) ∧ Lies B w' (L.set i (.ref r (A.sync t.data.toList).2)) ∧ Below B w w' :=
  h.rcall (R := fun e => e = _) hi (fun s xs S hr hrel _ => rSync_any hr hrel hok t)
theorem r_trunc (h : Lies B w L) (hi : L[i]? = some (.ref r A)) (hok : A.Ok) (t : ByteArray) (n : Int) :
    Calls Tryz.prog 60 #[.pointer (some ⟨r, 0, none⟩), .string t, .int .i64 n] w fun e w' => e = .returned (.int .i64 (A.trunc t.data.toList n).1) ∧ Lies B w' (L.set i (.ref r (A.trunc t.data.toList n).2)) ∧ Below B w w' :=
  h.rcall (R := fun e => e = _) hi (fun s xs S hr hrel _ => rTrunc_any hr hrel hok t n)
theorem r_rename (h : Lies B w L) (hi : L[i]? = some (.ref r A)) (hok : A.Ok) (t u : ByteArray) (hu : u.size ≤ maxLen) :
    Calls Tryz.prog 114 #[.pointer (some ⟨r, 0, none⟩), .string t, .string u] w fun e w' => e = .returned (.int .i64 (A.rename t.data.toList u.data.toList).1) ∧ Lies B w' (L.set i (.ref r (A.rename t.data.toList u.data.toList).2)) ∧ Below B w w' :=
  h.rcall (R := fun e => e = _) hi (fun s xs S hr hrel _ => rRename_any hr hrel hok t u hu)
theorem r_remove (h : Lies B w L) (hi : L[i]? = some (.ref r A)) (hok : A.Ok) (t : ByteArray) :
    Calls Tryz.prog 113 #[.pointer (some ⟨r, 0, none⟩), .string t] w fun e w' => e = .returned (.int .i64 (A.remove t.data.toList).1) ∧ Lies B w' (L.set i (.ref r (A.remove t.data.toList).2)) ∧ Below B w w' :=
  h.rcall (R := fun e => e = _) hi (fun s xs S hr hrel _ => rRemove_any hr hrel hok t)
theorem r_crash (h : Lies B w L) (hi : L[i]? = some (.ref r A)) (hok : A.Ok) (ad : Option Addr) (cap : Nat) (ls : List FT) (hfa : FatesAt w ad ls) (hfl : ls.length ≤ 9223372036854775807) :
    Calls Tryz.prog 56 #[.pointer (some ⟨r, 0, none⟩), .slice ad ls.length cap] w fun e w' => e = .returned (.tuple #[]) ∧ Lies B w' (L.set i (.ref r (A.crash (ls.map FT.abs)))) ∧ Below B w w' :=
  h.rcall (R := fun e => e = _) hi (fun s xs S hr hrel _ => rCrash_any hr hrel hok ad cap ls hfa hfl)
theorem r_on (h : Lies B w L) (hi : L[i]? = some (.ref r A)) (hok : A.Ok) :
    Calls Tryz.prog 57 #[.pointer (some ⟨r, 0, none⟩)] w fun e w' => e = .returned (.tuple #[]) ∧ Lies B w' (L.set i (.ref r A.on)) ∧ Below B w w' :=
  h.rcall (R := fun e => e = _) hi (fun s xs S hr hrel _ => rOn_any hr hrel hok)
theorem r_arm (h : Lies B w L) (hi : L[i]? = some (.ref r A)) (n x : Int) :
    Calls Tryz.prog 54 #[.pointer (some ⟨r, 0, none⟩), .int .i64 n, .int .i64 x] w fun e w' => e = .returned (.tuple #[]) ∧ Lies B w' (L.set i (.ref r (A.armed n x))) ∧ Below B w w' :=
  h.rcall (R := fun e => e = _) hi (fun s xs S hr hrel _ => (rArm_any hr hrel n x).mono (fun e w' ⟨he, s', h1, h2, ht⟩ => ⟨he, s', xs, S, h1, h2, step_self hr ht⟩))
theorem r_fall (h : Lies B w L) (hi : L[i]? = some (.ref r A)) (n : Int) :
    Calls Tryz.prog 55 #[.pointer (some ⟨r, 0, none⟩), .int .i64 n] w fun e w' => e = .returned (.tuple #[]) ∧ Lies B w' (L.set i (.ref r (A.fallen n))) ∧ Below B w w' :=
  h.rcall (R := fun e => e = _) hi (fun s xs S hr hrel _ => (rFall_any hr hrel n).mono (fun e w' ⟨he, s', h1, h2, ht⟩ => ⟨he, s', xs, S, h1, h2, step_self hr ht⟩))
theorem r_off (h : Lies B w L) (hi : L[i]? = some (.ref r A)) :
    Calls Tryz.prog 63 #[.pointer (some ⟨r, 0, none⟩)] w fun e w' => e = .returned (.bool A.pow.off) ∧ w' = w := by
  obtain ⟨S, ⟨s, xs, hr, hrel⟩, hB⟩ := h.get hi
  rw [← hrel.pow.off]
  exact rOff_any hr
theorem r_used (h : Lies B w L) (hi : L[i]? = some (.ref r A)) (hok : A.Ok) :
    Calls Tryz.prog 93 #[.pointer (some ⟨r, 0, none⟩)] w fun e w' => e = .returned (.int .i64 (fused A.fs : Int)) ∧ w' = w := by
  obtain ⟨S, ⟨s, xs, hr, hrel⟩, hB⟩ := h.get hi
  exact rUsed_any hr hrel hok
theorem r_size (h : Lies B w L) (hi : L[i]? = some (.ref r A)) (hok : A.Ok) (t : ByteArray) :
    Calls Tryz.prog 85 #[.pointer (some ⟨r, 0, none⟩), .string t] w fun e w' => e = .returned (.tuple #[.int .i64 (A.size t.data.toList).1, .int .i64 (A.size t.data.toList).2]) ∧ w' = w := by
  obtain ⟨S, ⟨s, xs, hr, hrel⟩, hB⟩ := h.get hi
  exact rSize_any hr hrel hok t
theorem r_read (h : Lies B w L) (hi : L[i]? = some (.ref r A)) (hok : A.Ok) (t : ByteArray) (a n : Int) :
    Calls Tryz.prog 61 #[.pointer (some ⟨r, 0, none⟩), .string t, .int .i64 a, .int .i64 n] w fun e w' => e = .returned (.tuple #[.string ⟨(A.read t.data.toList a n).1.toArray⟩, .int .i64 (A.read t.data.toList a n).2]) ∧ w' = w := by
  obtain ⟨S, ⟨s, xs, hr, hrel⟩, hB⟩ := h.get hi
  exact rRead_any hr hrel hok t a n
-- left out in this seat: r_list
-- left out in this seat: r_dirty
end
end Go.Proofs.YtlkimfmilccanaaGreat
/-
  DiskPlays: told; tools for lists of items.
-/
namespace Go.Proofs.YtlkimfmilccanaaGreat
open Go.RowKit Go.Maps Go.WideMaps
set_option linter.unusedVariables false
set_option linter.unusedSimpArgs false
theorem get_push {α : Type} {L M : List α} {i : Nat} {x : α} (h : L[i]? = some x) : (L ++ M)[i]? = some x := by
  rw [List.getElem?_append_left (List.getElem?_eq_some_iff.1 h).1]; exact h
theorem get_last {α : Type} (L : List α) (x : α) : (L ++ [x])[L.length]? = some x := by simp
theorem get_set {α : Type} {L : List α} {i : Nat} {x : α} (h : L[i]? = some x) (y : α) : (L.set i y)[i]? = some y := List.getElem?_set_self (List.getElem?_eq_some_iff.1 h).1
theorem get_set_ne {α : Type} {L : List α} {i j : Nat} {x y : α} (h : L[j]? = some x) (hij : i ≠ j) : (L.set i y)[j]? = some x := by rw [List.getElem?_set_ne hij]; exact h
theorem dirty_len {A : AD} (h : A.Ok) (k : Key) : (A.dirtyI k).length ≤ maxLen := by
  unfold AD.dirtyI AD.dirty
  rw [List.length_map]
  split
  · exact Nat.zero_le _
  · cases hg : fget A.fs k with
    | none => exact Nat.zero_le _
    | some F => exact Nat.le_trans (AF.dirtyL_length (h.files _ (fget_mem hg))) (by unfold maxLen; omega)
theorem list_len {A : AD} (h : A.Ok) : A.list.length ≤ maxLen := by
  unfold AD.list
  split
  · exact Nat.zero_le _
  · unfold fkeys
    rw [List.length_map]
    exact Nat.le_trans h.few (by unfold maxLen; omega)
/-- Some of the items, in another order. -/
theorem Lies.pick {B : Nat} {w : World} {L M : List Item} (h : Lies B w L) (f : Nat → Nat) (hf : ∀ i j, i < M.length → j < M.length → f i = f j → i = j) (hM : ∀ i (x : Item), M[i]? = some x → L[f i]? = some x) : Lies B w M := by
  obtain ⟨hb, S, h1, h2, h3⟩ := h
  have lt : ∀ i, i < M.length → f i < L.length := fun i hi => (List.getElem?_eq_some_iff.1 (hM i M[i] (List.getElem?_eq_getElem hi))).1
  exact ⟨hb, fun i => S (f i), fun i x hi => h1 (f i) x (hM i x hi), fun i b hi hs => h2 (f i) b (lt i hi) hs, fun i j b hi hj hne => h3 (f i) (f j) b (lt i hi) (lt j hj) (fun e => hne (hf i j hi hj e))⟩
section
variable {B : Nat} {w : World} {L : List Item} {i j p r : Nat} {A : AD}
-- left out in this seat: told_any
end
def cellsT : List FT → List Value
  | [] => []
  | x :: r => x.cs.toList ++ cellsT r
theorem cellsT_length : ∀ xs : List FT, (cellsT xs).length = xs.length * 4
  | [] => rfl
  | x :: r => by
    show (x.cs.toList ++ cellsT r).length = _
    rw [List.length_append, cellsT_length r, List.length_cons]
    show 4 + _ = _
    omega
theorem cellsT_get : ∀ (xs : List FT) (k : Nat) (h : k < xs.length) (j : Nat), j < 4 → (cellsT xs)[k * 4 + j]? = (xs[k].cs)[j]?
  | [], k, h, _, _ => by simp at h
  | x :: r, 0, _, j, hj => by
    show (x.cs.toList ++ cellsT r)[0 * 4 + j]? = x.cs[j]?
    rw [List.getElem?_append_left (by show _ < 4; omega), Array.getElem?_toList]
    congr 1
    omega
  | x :: r, k + 1, h, j, hj => by
    show (x.cs.toList ++ cellsT r)[(k + 1) * 4 + j]? = _
    rw [List.getElem?_append_right (by show 4 ≤ _; omega)]
    show (cellsT r)[(k + 1) * 4 + j - 4]? = _
    rw [show (k + 1) * 4 + j - 4 = k * 4 + j by omega, cellsT_get r k (by simp at h; omega) j hj]
    rfl
theorem one_fate (x : FT) : ∀ u ∈ x.cs.toList, u.oneCell' = true := by
  intro u hu
  simp only [FT.cs, List.mem_cons, List.not_mem_nil, or_false] at hu
  rcases hu with rfl | rfl | rfl | rfl <;> rfl
theorem one_fates : ∀ xs : List FT, ∀ u ∈ cellsT xs, u.oneCell' = true
  | [], u, hu => by simp [cellsT] at hu
  | x :: r, u, hu => by
    rcases List.mem_append.1 hu with h | h
    · exact one_fate x u h
    · exact one_fates r u h
theorem infoT : (Tryz.prog.info? 140).map (fun i => (i.zero, i.size, i.bytes)) = some (some (.agg #[.string ⟨#[]⟩, .int .i64 0, .int .i64 0, .string ⟨#[]⟩]), 4, 48) := by kernel_rfl
theorem app_fates (w : World) (ad : Option Addr) (cap : Nat) (ls : List FT) (hfa : FatesAt w ad ls) (hsz : ls.length * 48 ≤ 140737488355328) (ty : TypeId) :
    ∃ v w', (Builtin.append_ #[57, 57] ty #[.slice none 0 0, .slice ad ls.length cap]).run Tryz.prog w = .ok v w' ∧ w'.ownsRow w.heap.size 140 4 v ls.length (cellsT ls) ∧ Below w.heap.size w w' := by
  obtain ⟨i, hi, hz0, hz1, hz2⟩ := info_parts infoT
  by_cases he : ls = []
  · subst he
    have hs : Src Tryz.prog i.size 57 (.slice ad 0 cap) 0 [] w := by
      cases ad with
      | none => exact Src.ofNil w Tryz.underlying57 cap
      | some a => exact Src.ofSlice w Tryz.underlying57 a 0 cap [] (by simp) (fun j u hu => by simp at hu) (by simp)
    exact ⟨_, _, run_append_nothing (P := Tryz.prog) w _ _ ty _ i Tryz.underlying57 hi none 0 0 (Nat.le_refl _) _ hs, World.ownsRow_nil _ _ _ _, Below.refl _ _⟩
  · rcases hfa with h | ⟨b, o, rfl, hl, hc⟩
    · exact absurd h he
    have hpos : 0 < ls.length := List.length_pos_iff.2 he
    obtain ⟨g, c, w', hr, h2, h3, h4, h5⟩ := run_append_lies (P := Tryz.prog) w 57 ty w.heap.size 140 i _ 4 48 Tryz.underlying57 hi hz0 hz1 hz2 rfl (by decide) (.slice none 0 0) 0 [] (World.ownsRow_nil _ _ _ _) ⟨b, o, none⟩ ls.length cap (cellsT ls) (cellsT_length ls) (fun j u hu => by
      have hj := (List.getElem?_eq_some_iff.1 hu).1
      rw [cellsT_length] at hj
      have e := cellsT_get ls (j / 4) (by omega) (j % 4) (by omega)
      rw [show j / 4 * 4 + j % 4 = j by omega, hu] at e
      rw [show (⟨b, o, none⟩ : Addr).add j = ⟨b, o + j, none⟩ by unfold Addr.add; split <;> simp_all]
      have := hc (j / 4) (by omega) (j % 4) (by omega)
      rw [show o + j / 4 * 4 + j % 4 = o + j by omega] at this
      rw [this, e]) (one_fates ls) hpos (by unfold maxLen; omega) (by omega) (Nat.le_refl _) _ rfl
    refine ⟨_, w', hr, ?_, ⟨h3.os, h3.tape, h3.output, h3.size, fun b hb => h3.block b hb (by simp [Value.ownBlock])⟩⟩
    simp only [Nat.zero_add, List.nil_append] at h2
    rw [Nat.zero_add]
    exact h2
theorem set_push {α : Type} {L M : List α} {i : Nat} {y x : α} (h : L[i]? = some y) : (L ++ M).set i x = L.set i x ++ M := List.set_append_left _ _ (List.getElem?_eq_some_iff.1 h).1
def mkF : FT := ⟨⟨#[109, 97, 114, 107]⟩, -7, 0, ⟨#[]⟩⟩
theorem Lies.reblock {B : Nat} {w w' : World} {L : List Item} {q g : Nat} {ob ob' : Obj} (h : Lies B w L) (hi : L[q]? = some (.block g ob)) (hn : w'.heap[g]? = some ob') (ht : Turn (fun b => b = g) w w') : Lies B w' (L.set q (.block g ob')) ∧ Below B w w' := by
  obtain ⟨S, hp, hB, _, hk⟩ := h.upd hi
  exact hk w' (.block g ob') (fun b => b = g) ⟨hn, fun _ => Iff.rfl⟩ ⟨ht.mono (fun b hb => (hp.2 b).2 hb), fun b hb => .inl ((hp.2 b).2 hb)⟩
section
variable {B : Nat} {w : World} {L : List Item} {i j p r : Nat} {A : AD}
theorem Lies.blockOf {q g : Nat} {ob : Obj} (h : Lies B w L) (hi : L[q]? = some (.block g ob)) : w.heap[g]? = some ob := by
  obtain ⟨S, hp, _⟩ := h.get hi
  exact hp.1
-- left out in this seat: crashes_any
end
end Go.Proofs.YtlkimfmilccanaaGreat
