/-
  The document's disk: Rename.
-/
import Derived.Test.YtobfijpfdibccaaGreatRefSync
namespace Go.Proofs.YtobfijpfdibccaaGreat
open Go.RowKit Go.Maps Go.WideMaps
set_option linter.unusedVariables false
set_option linter.unusedSimpArgs false
section
variable {w w1 w2 : World} {r : Nat} {s : RS} {xs : List RF} {S : Nat → Prop} {A : AD}
set_option maxRecDepth 5000 in
set_option maxHeartbeats 4000000 in
theorem rRename_any (h : RefAt w r s xs S) (hr : RRel s xs A) (hok : A.Ok) (t : ByteArray) (u : ByteArray) (hu : u.size ≤ maxLen) : Calls Tryz.prog 49 #[.pointer (some ⟨r, 0, none⟩), .string t, .string u] w fun e w' => e = .returned (.int .i64 (A.rename t.data.toList u.data.toList).1) ∧ ∃ s' xs' S', RefAt w' r s' xs' S' ∧ RRel s' xs' (A.rename t.data.toList u.data.toList).2 ∧ Step S S' w w' := by
  have c5 : w.cell? ⟨r, 5, none⟩ = some (.bool A.pow.off) := by rw [← hr.pow.off]; exact h.c 5
  have c1 : w.cell? ⟨r, 1, none⟩ = some (.slice s.ad xs.length s.c) := by rw [← hr.n]; exact h.c 1
  have hl : xs.length ≤ 16 := by have := hok.few; rw [hr.fs, List.length_map] at this; exact this
  have hfind := rFind_any h hr.n (by omega) t
  have hname := rName_any u hu w
  have HH := hide h
  have HR := hide hr
  have HFS := hide hr.fs
  have hff := h.files
  have hlt : r < w.heap.size := h.lt r h.self
  have HUS := hide h.use
  obtain ⟨ad, had⟩ : ∃ ad, s.ad = ad := ⟨_, rfl⟩
  rw [had] at c1 hff HUS
  have HFF := hide hff
  clear h hr hok had hff
  unfold AD.rename
  cases hoff : A.pow.off with
  | true =>
    rw [hoff] at c5
    rw [if_pos rfl]
    clear hfind hoff hname
    go_enter Tryz.func49, Tryz.ntmps49
    go_wp2
    go_ret
    exact ⟨rfl, s, xs, S, HH.out, HR.out, Step.refl _ _⟩
  | false =>
    rw [hoff] at c5
    rw [if_neg (by simp)]
    cases hg : fget A.fs t.data.toList with
    | none =>
      rw [HFS.out] at hg
      rw [find_none hg] at hfind
      clear hg hoff hname
      go_enter Tryz.func49, Tryz.ntmps49
      go_wp2_with fail
      refine hfind.mono ?_
      rintro e w1 ⟨rfl, rfl⟩
      clear hfind
      go_wp2
      go_ret
      exact ⟨rfl, s, xs, S, HH.out, HR.out, Step.refl _ _⟩
    | some F =>
      have HG := hide hg
      rw [HFS.out] at hg
      obtain ⟨i, hi, hfi, hab⟩ := find_some hg
      rw [hfi] at hfind
      have hk0 : (0 : Int) ≤ (i : Int) := by omega
      have hk1 : (i : Int) < (xs.length : Int) := by omega
      have dk : decide ((i : Int) < 0) = false := decide_eq_false (by omega)
      obtain ⟨b, o, rfl, hbl, hcs⟩ := HFF.out.cells hi
      obtain ⟨x, hx⟩ : ∃ x, xs[i] = x := ⟨_, rfl⟩
      have hxm : x ∈ xs := by rw [← hx]; exact List.getElem_mem hi
      have HXM := hide hxm
      rw [hx] at hab hcs
      have HAB := hide hab
      simp only
      cases hnm : nameOk u.data.toList with
      | false =>
        rw [if_pos rfl]
        rw [hnm] at hname
        clear hg hoff hab hfi hx hcs hxm hnm
        go_enter Tryz.func49, Tryz.ntmps49
        go_wp2_with fail
        refine hfind.mono ?_
        rintro e w1 ⟨rfl, rfl⟩
        clear hfind
        go_wp2_with fail
        refine hname.mono ?_
        rintro e w1 ⟨rfl, rfl⟩
        clear hname
        go_wp2
        go_ret
        exact ⟨rfl, s, xs, S, HH.out, HR.out, Step.refl _ _⟩
      | true =>
        rw [if_neg (by simp)]
        rw [hnm] at hname
        have f0 : w.cell? ⟨b, o + i * 4, none⟩ = some (.string x.name) := hcs 0 (by omega)
        have f1 : w.cell? ⟨b, o + i * 4 + 1, none⟩ = some (.string x.seen) := hcs 1 (by omega)
        have f2 : w.cell? ⟨b, o + i * 4 + 2, none⟩ = some (.string x.safe) := hcs 2 (by omega)
        have f3 : w.cell? ⟨b, o + i * 4 + 3, none⟩ = some (.slice x.ad x.ds.length x.cap) := hcs 3 (by omega)
        obtain ⟨g, hgg⟩ : ∃ g, w.heap.size = g := ⟨_, rfl⟩
        obtain ⟨f, hf⟩ : ∃ f : RF, f = ⟨u, x.seen, x.safe, x.ad, x.cap, x.ds⟩ := ⟨_, rfl⟩
        obtain ⟨w3, hw3⟩ : ∃ w3, w.alloc (.cells f.cs 82) = w3 := ⟨_, rfl⟩
        have hb3 : Below w.heap.size w w3 := by rw [← hw3]; exact (Below.refl _ _).alloc (Nat.le_refl _) _
        have hblk : w3.heap[g]? = some (.cells f.cs 82 (0, 0)) := by rw [← hw3, ← hgg]; exact heap_alloc_new w _
        rw [hf] at hw3 hblk
        unfold RF.cs at hw3
        simp only at hw3
        have HGC : Hid (∀ j, w3.cell? ⟨g, j, none⟩ = (#[.string u, .string x.seen, .string x.safe, .slice x.ad x.ds.length x.cap] : Array Value)[j]?) := fun j => by rw [cell_of_row w3 g j _ _ (0, 0) hblk]; rfl
        have HS1 : Hid (w3.cell? ⟨r, 1, none⟩ = some (.slice (some ⟨b, o, none⟩) xs.length s.c) ∧ w3.cell? ⟨g, 0, none⟩ = some (.string u) ∧ w3.cell? ⟨g, 1, none⟩ = some (.string x.seen) ∧ w3.cell? ⟨g, 2, none⟩ = some (.string x.safe) ∧ w3.cell? ⟨g, 3, none⟩ = some (.slice x.ad x.ds.length x.cap)) := ⟨by rw [World.cell?_of_block (hb3.block r hlt)]; exact c1, HGC.out 0, HGC.out 1, HGC.out 2, HGC.out 3⟩
        have hfd : Files w3.drew (some ⟨b, o, none⟩) xs := (HFF.out.below hb3).below ⟨rfl, rfl, rfl, Nat.le_refl _, fun _ _ => rfl⟩
        have HFD := hide hfd
        have HWO := hide (without_any w3.drew (some ⟨b, o, none⟩) s.c xs hfd (by omega) t)
        have HBD : Hid (∀ w4, Below w3.drew.heap.size w3.drew w4 → Below w3.heap.size w3 w4) := fun w4 hb => ⟨hb.os, hb.tape, hb.output, hb.size, hb.block⟩
        have HGL := hide (lt_of_some hblk)
        have HLT := hide hlt
        have HB3 := hide hb3
        have HF := hide hf
        clear hg hoff hab hfi hx hcs hxm hnm hb3 hblk hlt hfd hf
        go_enter Tryz.func49, Tryz.ntmps49
        go_wp2_with fail
        refine hfind.mono ?_
        rintro e w1 ⟨rfl, rfl⟩
        clear hfind
        go_wp2_with fail
        refine hname.mono ?_
        rintro e w1 ⟨rfl, rfl⟩
        clear hname
        go_wp2
        clear hw3 hgg
        refine wp_region_noPanic ?_
        refine wp_region_T (S := fun wx => wx.cell? ⟨r, 1, none⟩ = some (.slice (some ⟨b, o, none⟩) xs.length s.c) ∧ wx.cell? ⟨g, 0, none⟩ = some (.string u) ∧ wx.cell? ⟨g, 1, none⟩ = some (.string x.seen) ∧ wx.cell? ⟨g, 2, none⟩ = some (.string x.safe) ∧ wx.cell? ⟨g, 3, none⟩ = some (.slice x.ad x.ds.length x.cap)) 11 (by kernel_rfl) HS1.out (fun hHeld => ?_)
        refine takeT 0 (some 30) (.pointer (some ⟨r, 0, none⟩)) rfl rfl (by kernel_rfl) (by kernel_rfl) (by kernel_rfl) (by kernel_rfl) (by decide) (fun _ _ _ h => h) (by rfl) (fun w hw => by first | rfl | (go_simp; done) | (go_simp; rfl)) hHeld ?_
        simp only [Act.put, List.setIfInBounds_toArray, List.set_cons_zero, List.set_cons_succ]
        refine takeT 1 (some 31) (.pointer (some ⟨r, 0, none⟩)) rfl rfl (by kernel_rfl) (by kernel_rfl) (by kernel_rfl) (by kernel_rfl) (by decide) (fun _ _ _ h => h) (by rfl) (fun w hw => by first | rfl | (go_simp; done) | (go_simp; rfl)) hHeld ?_
        simp only [Act.put, List.setIfInBounds_toArray, List.set_cons_zero, List.set_cons_succ]
        refine takeT 2 (some 32) (.pointer (some ⟨r, 0, none⟩)) rfl rfl (by kernel_rfl) (by kernel_rfl) (by kernel_rfl) (by kernel_rfl) (by decide) (fun _ _ _ h => h) (by rfl) (fun w hw => by first | rfl | (go_simp; done) | (go_simp; rfl)) hHeld ?_
        simp only [Act.put, List.setIfInBounds_toArray, List.set_cons_zero, List.set_cons_succ]
        refine takeT 3 (some 33) (.pointer (some ⟨r, 1, none⟩)) rfl rfl (by kernel_rfl) (by kernel_rfl) (by kernel_rfl) (by kernel_rfl) (by decide) (fun _ _ _ h => h) (by rfl) (fun w hw => by first | rfl | (go_simp; done) | (go_simp; rfl)) hHeld ?_
        simp only [Act.put, List.setIfInBounds_toArray, List.set_cons_zero, List.set_cons_succ]
        refine takeT 4 (some 34) (.slice (some ⟨b, o, none⟩) xs.length s.c) rfl rfl (by kernel_rfl) (by kernel_rfl) (by kernel_rfl) (by kernel_rfl) (by decide) (fun _ _ _ h => h) (by rfl) (fun w hw => by have hw' := hw.1; first | rfl | (go_simp; done) | (go_simp; rfl)) hHeld ?_
        simp only [Act.put, List.setIfInBounds_toArray, List.set_cons_zero, List.set_cons_succ]
        refine takeT 5 (some 35) (.string t) rfl rfl (by kernel_rfl) (by kernel_rfl) (by kernel_rfl) (by kernel_rfl) (by decide) (fun _ _ _ h => h) (by rfl) (fun w hw => by first | rfl | (go_simp; done) | (go_simp; rfl)) hHeld ?_
        simp only [Act.put, List.setIfInBounds_toArray, List.set_cons_zero, List.set_cons_succ]
        refine takeT 7 (some 37) (.agg #[.string u, .string x.seen, .string x.safe, .slice x.ad x.ds.length x.cap]) rfl rfl (by kernel_rfl) (by kernel_rfl) (by kernel_rfl) (by kernel_rfl) (by decide) (fun _ _ _ h => h) (by rfl) (fun w hw => by obtain ⟨_, q0, q1, q2, q3⟩ := hw; first | rfl | (go_simp; done) | (go_simp; rfl)) hHeld ?_
        simp only [Act.put, List.setIfInBounds_toArray, List.set_cons_zero, List.set_cons_succ]
        refine readyT 6 (by kernel_rfl) rfl (by rfl) (fun K hK => ?_)
        go_simp
        refine HWO.out.mono ?_
        rintro e w4 ⟨v, rfl, ho, hb⟩
        try go_wp2_with fail
        have hb4 := HBD.out _ hb
        have KP : Hid (∀ w', Below w3.heap.size w3 w' → w'.cell? ⟨r, 1, none⟩ = some (.slice (some ⟨b, o, none⟩) xs.length s.c) ∧ w'.cell? ⟨g, 0, none⟩ = some (.string u) ∧ w'.cell? ⟨g, 1, none⟩ = some (.string x.seen) ∧ w'.cell? ⟨g, 2, none⟩ = some (.string x.safe) ∧ w'.cell? ⟨g, 3, none⟩ = some (.slice x.ad x.ds.length x.cap)) := fun w' hw => by
          have e1 := hw.block r (Nat.lt_of_lt_of_le HLT.out HB3.out.size)
          have e2 := hw.block g HGL.out
          exact ⟨(World.cell?_of_block e1).trans HS1.out.1, (World.cell?_of_block e2).trans HS1.out.2.1, (World.cell?_of_block e2).trans HS1.out.2.2.1, (World.cell?_of_block e2).trans HS1.out.2.2.2.1, (World.cell?_of_block e2).trans HS1.out.2.2.2.2⟩
        obtain ⟨ad4, cap4, rfl, hrow4, _, _⟩ := own_at ho
        have hf4 : Files w4 ad4 (delR xs t.data.toList) := ⟨hrow4, fun y hy => (HFD.out.dirty y (delR_mem hy)).below hb⟩
        have HPUT := hide (put_any w4 ad4 cap4 (delR xs t.data.toList) hf4 (Nat.le_trans (delR_few _ _) (by omega)) f)
        rw [HF.out] at HPUT
        have HB4 := hide hb4
        refine hK.out _ _ (fun _ => KP.out _ hb4) (fun hH => ?_)
        have hHeld := hH (by decide)
        clear hK K hH ho hb hb4 hrow4 hf4
        refine readyT 8 (by kernel_rfl) rfl (by rfl) (fun K hK => ?_)
        go_simp
        refine HPUT.out.mono ?_
        rintro e w5 ⟨v, rfl, ho, hb⟩
        try go_wp2_with fail
        have hb5 := HB4.out.trans (hb.mono HB4.out.size)
        have hfin := HH.out.relist HR.out (HB3.out.trans (HB4.out.mono HB3.out.size)) ho hb (fun y hy => by
          rcases putR_mem hy with rfl | hy
          · refine .inr ⟨((HFF.out.dirty x HXM.out).below HB3.out).below HB4.out, fun hd b o ha => .inl (HUS.out b (.inr ⟨x, HXM.out, hd, o, ha⟩)), HR.out.ds x HXM.out⟩
          · exact .inl (delR_mem hy)) _ (putR_abs _ _)
        obtain ⟨ad5, cap5, rfl, _, _, _⟩ := own_at ho
        have HFI := hide hfin
        have g1 : w5.frozen? ⟨r, 1, none⟩ = false := frozen_of_row w5 r 1 _ _ (by rw [hb5.block r (Nat.lt_of_lt_of_le HLT.out HB3.out.size), HB3.out.block r HLT.out]; exact HH.out.cells)
        have HS5 := hide (KP.out _ hb5)
        refine hK.out _ _ (fun _ => HS5.out) (fun hH => ?_)
        clear hHeld
        have hHeld := hH (by decide)
        clear hK K hH ho hb hb5 hfin
        have g2 := HS5.out.1
        refine readyT 9 (by kernel_rfl) rfl (by rfl) (fun K hK => ?_)
        go_simp
        refine hK.out _ _ (fun _ => hHeld) (fun hH => ?_)
        clear hHeld
        have hHeld := hH (by decide)
        clear hK K hH
        refine readyT 10 (by kernel_rfl) rfl (by rfl) (fun K hK => ?_)
        go_simp
        refine hK.out _ _ (fun _ => hHeld) (fun hH => ?_)
        clear hHeld
        have hHeld := hH (by decide)
        clear hK K hH
        refine readyT 11 (by kernel_rfl) rfl (by rfl) (fun K hK => ?_)
        go_simp
        refine hK.out _ _ (fun hx => absurd rfl hx) (fun hH => ?_)
        refine ⟨by kernel_rfl, ?_⟩
        refine NoPanic.normal ?_
        clear hHeld hK K hH
        clear g1 g2
        go_wp2
        go_ret
        obtain ⟨s', S', q1, q2, q3⟩ := HFI.out
        refine ⟨rfl, s', _, S', q1, ?_, q3⟩
        have e1 : x.abs.2 = F := by rw [HAB.out]
        have e5 : (⟨u, x.seen, x.safe, x.ad, x.cap, x.ds⟩ : RF).abs.1 = u.data.toList := rfl
        have e6 : (⟨u, x.seen, x.safe, x.ad, x.cap, x.ds⟩ : RF).abs.2 = F := e1
        rw [e5, e6, delR_abs, ← HFS.out] at q2
        exact q2
end
end Go.Proofs.YtobfijpfdibccaaGreat
