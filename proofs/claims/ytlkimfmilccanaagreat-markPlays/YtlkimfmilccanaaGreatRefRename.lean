import Derived.Test.YtlkimfmilccanaaGreatRefCalls3
/-
  The document's disk: Sync, Remove.
-/
namespace Go.Proofs.YtlkimfmilccanaaGreat
open Go.RowKit Go.Maps Go.WideMaps
set_option linter.unusedVariables false
set_option linter.unusedSimpArgs false
section
variable {w w1 w2 : World} {r : Nat} {s : RS} {xs : List RF} {S : Nat → Prop} {A : AD}
theorem own_base {w : World} {B B' e sz n : Nat} {v : Value} {l : List Value} (h : w.ownsRow B e sz v n l) (hb : B' ≤ B) : w.ownsRow B' e sz v n l := by
  refine ⟨h.1, ?_⟩
  rcases h.2 with h | ⟨g, c, cur, h1, h2, rest⟩
  · exact .inl h
  · exact .inr ⟨g, c, cur, h1, Nat.le_trans hb h2, rest⟩
theorem RefAt.relist (h : RefAt w r s xs S) (hr : RRel s xs A) (hb1 : Below w.heap.size w w1) {v : Value} {ys : List RF} (ho : w2.ownsRow w1.heap.size 147 4 v ys.length (cellsF ys)) (hb2 : Below w1.heap.size w1 w2)
    (hy : ∀ y ∈ ys, y ∈ xs ∨ (RowAt w1 y.ad (y.ds.map (Value.int .i64)) ∧ (y.ds ≠ [] → ∀ b o, y.ad = some ⟨b, o, none⟩ → (S b ∧ b ≠ r) ∨ w.heap.size ≤ b) ∧ y.ds = dirtyI y.abs.2)) (fs : FList) (hfs : ys.map RF.abs = fs) :
    ∃ s' S', RefAt (w2.setCell ⟨r, 1, none⟩ v) r s' ys S' ∧ RRel s' ys { A with fs := fs } ∧ Step S S' w (w2.setCell ⟨r, 1, none⟩ v) := by
  have hb : Below w.heap.size w w2 := hb1.trans (hb2.mono hb1.size)
  obtain ⟨ad, c, S', rfl, h1, h2⟩ := h.list w2 hb (own_base ho hb1.size) (fun y hm => by
    rcases hy y hm with hx | ⟨hx, _⟩
    · exact (h.files.dirty y hx).below hb
    · exact hx.below hb2) (fun y hm hd b o ha => by
    rcases hy y hm with hx | ⟨_, hx, _⟩
    · exact .inl (h.use b (.inr ⟨y, hx, hd, o, ha⟩))
    · exact hx hd b o ha)
  refine ⟨_, S', h1, ⟨rfl, hr.cap, ⟨hr.pow.arm, hr.pow.fall, hr.pow.off, hr.pow.opn, hr.pow.what⟩, hfs.symm, fun y hm => ?_⟩, h2⟩
  rcases hy y hm with hx | ⟨_, _, hx⟩
  · exact hr.ds y hx
  · exact hx
theorem step_self (h : RefAt w r s xs S) (ht : Turn (fun b => b = r) w w1) : Step S S w w1 := ⟨ht.mono (fun b hb => by rw [hb]; exact h.self), fun b hb => .inl hb⟩
theorem dirtyI_none (a b : List UInt8) : dirtyI ⟨a, b, fun s => ([] : List Int).contains (s : Int)⟩ = [] := by
  unfold dirtyI AF.dirtyL
  rw [List.map_eq_nil_iff, List.filter_eq_nil_iff]
  intro x _
  show ¬ false = true
  simp
set_option maxRecDepth 5000 in
set_option maxHeartbeats 4000000 in
theorem rRemove_any (h : RefAt w r s xs S) (hr : RRel s xs A) (hok : A.Ok) (t : ByteArray) : Calls Tryz.prog 113 #[.pointer (some ⟨r, 0, none⟩), .string t] w fun e w' => e = .returned (.int .i64 (A.remove t.data.toList).1) ∧ ∃ s' xs' S', RefAt w' r s' xs' S' ∧ RRel s' xs' (A.remove t.data.toList).2 ∧ Step S S' w w' := by
  have c1 : w.cell? ⟨r, 1, none⟩ = some (.slice s.ad xs.length s.c) := by rw [← hr.n]; exact h.c 1
  have c5 : w.cell? ⟨r, 5, none⟩ = some (.bool A.pow.off) := by rw [← hr.pow.off]; exact h.c 5
  have f1 := h.fz 1
  have hl : xs.length ≤ 16 := by have := hok.few; rw [hr.fs, List.length_map] at this; exact this
  have hfind := rFind_any h hr.n (by omega) t
  have hwo := without_any w s.ad s.c xs h.files (by omega) t
  obtain ⟨ad, had⟩ : ∃ ad, s.ad = ad := ⟨_, rfl⟩
  rw [had] at c1 hwo
  have HH := hide h
  have HR := hide hr
  have HFS := hide hr.fs
  have HLT := hide (h.lt r h.self)
  clear h hr had hok
  unfold AD.remove
  cases hoff : A.pow.off with
  | true =>
    rw [hoff] at c5
    rw [if_pos rfl]
    clear hfind hoff hwo
    go_enter Tryz.func113, Tryz.ntmps113
    go_wp2
    go_ret
    exact ⟨rfl, s, xs, S, HH.out, HR.out, Step.refl _ _⟩
  | false =>
    rw [hoff] at c5
    rw [if_neg (by simp)]
    cases hg : fget A.fs t.data.toList with
    | none =>
      rw [HFS.out] at hg
      rw [find_none hg] at hfind
      clear hg hoff hwo
      go_enter Tryz.func113, Tryz.ntmps113
      go_wp2_with fail
      refine hfind.mono ?_
      rintro e w1 ⟨rfl, rfl⟩
      clear hfind
      go_wp2
      go_ret
      exact ⟨rfl, s, xs, S, HH.out, HR.out, Step.refl _ _⟩
    | some F =>
      rw [HFS.out] at hg
      obtain ⟨i, hi, hfi, hab⟩ := find_some hg
      rw [hfi] at hfind
      have hk0 : (0 : Int) ≤ (i : Int) := by omega
      have dk : decide ((i : Int) < 0) = false := decide_eq_false (by omega)
      clear hg hoff hab hfi
      go_enter Tryz.func113, Tryz.ntmps113
      go_wp2_with fail
      refine hfind.mono ?_
      rintro e w1 ⟨rfl, rfl⟩
      clear hfind
      go_wp2_with fail
      refine hwo.mono ?_
      rintro e w2 ⟨v, rfl, ho, hb⟩
      have g1 : w2.frozen? ⟨r, 1, none⟩ = false := frozen_of_row w2 r 1 _ _ (by rw [hb.block r HLT.out]; exact HH.out.cells)
      have g2 : w2.cell? ⟨r, 1, none⟩ = some (.slice ad xs.length s.c) := (World.cell?_of_block (hb.block r HLT.out)).trans c1
      have hfin := HH.out.relist HR.out (Below.refl _ _) ho hb (fun y hy => .inl (delR_mem hy)) _ ((delR_abs _ _).trans (by rw [← HFS.out]))
      obtain ⟨ad2, c2, rfl, _, _, _⟩ := own_at ho
      have HFI := hide hfin
      clear hwo ho hb hfin c1 c5 f1
      go_wp2
      go_ret
      obtain ⟨s', S', q1, q2, q3⟩ := HFI.out
      exact ⟨rfl, s', _, S', q1, q2, q3⟩
set_option maxRecDepth 5000 in
set_option maxHeartbeats 4000000 in
theorem rSync_any (h : RefAt w r s xs S) (hr : RRel s xs A) (hok : A.Ok) (t : ByteArray) : Calls Tryz.prog 88 #[.pointer (some ⟨r, 0, none⟩), .string t] w fun e w' => e = .returned (.int .i64 (A.sync t.data.toList).1) ∧ ∃ s' xs' S', RefAt w' r s' xs' S' ∧ RRel s' xs' (A.sync t.data.toList).2 ∧ Step S S' w w' := by
  have c5 : w.cell? ⟨r, 5, none⟩ = some (.bool A.pow.off) := by rw [← hr.pow.off]; exact h.c 5
  have hl : xs.length ≤ 16 := by have := hok.few; rw [hr.fs, List.length_map] at this; exact this
  have hfind := rFind_any h hr.n (by omega) t
  have href := refused_any h hr hok.pow 2
  have HH := hide h
  have HR := hide hr
  have HOK := hide hok
  have HFS := hide hr.fs
  clear h hr hok
  unfold AD.sync
  cases hoff : A.pow.off with
  | true =>
    rw [hoff] at c5
    rw [if_pos rfl]
    clear hfind hoff href
    go_enter Tryz.func88, Tryz.ntmps88
    go_wp2
    go_ret
    exact ⟨rfl, s, xs, S, HH.out, HR.out, Step.refl _ _⟩
  | false =>
    rw [hoff] at c5
    rw [if_neg (by simp)]
    cases hg : fget A.fs t.data.toList with
    | none =>
      rw [HFS.out] at hg
      rw [find_none hg] at hfind
      clear hg hoff href
      go_enter Tryz.func88, Tryz.ntmps88
      go_wp2_with fail
      refine hfind.mono ?_
      rintro e w1 ⟨rfl, rfl⟩
      clear hfind
      go_wp2
      go_ret
      exact ⟨rfl, s, xs, S, HH.out, HR.out, Step.refl _ _⟩
    | some F =>
      have HG := hide hg
      rw [HFS.out] at hg
      obtain ⟨i, hi, hfi, hab⟩ := find_some hg
      rw [hfi] at hfind
      have hk0 : (0 : Int) ≤ (i : Int) := by omega
      have hk1 : (i : Int) < (xs.length : Int) := by omega
      have dk : decide ((i : Int) < 0) = false := decide_eq_false (by omega)
      obtain ⟨x, hx⟩ : ∃ x, xs[i] = x := ⟨_, rfl⟩
      rw [hx] at hab
      have HX := hide hx
      have HAB := hide hab
      obtain ⟨cn, hcn⟩ : ∃ cn, (A.pow.count 2).1 = cn := ⟨_, rfl⟩
      obtain ⟨P, hP⟩ : ∃ P, (A.pow.count 2).2 = P := ⟨_, rfl⟩
      rw [hcn, hP] at href
      simp only
      rw [hcn, hP]
      clear hg hoff hab hfi hx hcn hP
      by_cases hc0 : cn = 0
      · subst hc0
        rw [if_neg (by simp)]
        go_enter Tryz.func88, Tryz.ntmps88
        go_wp2_with fail
        refine hfind.mono ?_
        rintro e w1 ⟨rfl, rfl⟩
        clear hfind
        go_wp2_with fail
        refine href.mono ?_
        rintro e w2 ⟨rfl, s2, h2, hr2, ht2⟩
        have c1 : w2.cell? ⟨r, 1, none⟩ = some (.slice s2.ad xs.length s2.c) := by rw [← hr2.n]; exact h2.c 1
        have HH2 := hide h2
        have HR2 := hide hr2
        have HST := hide (step_self HH.out ht2)
        have hff := h2.files
        obtain ⟨ad, had⟩ : ∃ ad, s2.ad = ad := ⟨_, rfl⟩
        rw [had] at c1 hff
        have HAD := hide had
        obtain ⟨b, o, rfl, hbl, hcs⟩ := hff.cells hi
        rw [HX.out] at hcs
        have f0 : w2.cell? ⟨b, o + i * 4, none⟩ = some (.string x.name) := hcs 0 (by omega)
        have f1 : w2.cell? ⟨b, o + i * 4 + 1, none⟩ = some (.string x.seen) := hcs 1 (by omega)
        have f2 : w2.cell? ⟨b, o + i * 4 + 2, none⟩ = some (.string x.safe) := hcs 2 (by omega)
        have f3 : w2.cell? ⟨b, o + i * 4 + 3, none⟩ = some (.slice x.ad x.ds.length x.cap) := hcs 3 (by omega)
        obtain ⟨g, hg⟩ : ∃ g, w2.heap.size = g := ⟨_, rfl⟩
        obtain ⟨w3, hw3⟩ : ∃ w3, w2.alloc (.cells x.cs 147) = w3 := ⟨_, rfl⟩
        have hb3 : Below w2.heap.size w2 w3 := by rw [← hw3]; exact (Below.refl _ _).alloc (Nat.le_refl _) _
        have hblk : w3.heap[g]? = some (.cells x.cs 147 (0, 0)) := by rw [← hw3, ← hg]; exact heap_alloc_new w2 _
        have hlt : r < w2.heap.size := h2.lt r h2.self
        have HS1 : Hid (w3.cell? ⟨r, 1, none⟩ = some (.slice (some ⟨b, o, none⟩) xs.length s2.c) ∧ w3.cell? ⟨g, 1, none⟩ = some (.string x.seen)) := ⟨by rw [World.cell?_of_block (hb3.block r hlt)]; exact c1, by rw [cell_of_row w3 g 1 _ _ (0, 0) hblk]; rfl⟩
        have hput := put_any w3.drew (some ⟨b, o, none⟩) s2.c xs ((hff.below hb3).below ⟨rfl, rfl, rfl, Nat.le_refl _, fun _ _ => rfl⟩) (by omega) ⟨t, x.seen, x.seen, none, 0, []⟩
        have HBD : Hid (∀ w4, Below w3.drew.heap.size w3.drew w4 → Below w3.heap.size w3 w4) := fun w4 hb => ⟨hb.os, hb.tape, hb.output, hb.size, hb.block⟩
        have hgl : g < w3.heap.size := lt_of_some hblk
        have HGL := hide hgl
        have HLT := hide hlt
        have HB3 := hide hb3
        have HPUT := hide hput
        have HW3 := hide hw3
        have HGE := hide hg
        unfold RF.cs at hw3
        clear href h2 hr2 ht2 hff had hcs c5 hb3 hblk hlt hput hgl
        go_wp2
        clear hw3 hg
        refine wp_region_noPanic ?_
        refine wp_region_T (S := fun wx => wx.cell? ⟨r, 1, none⟩ = some (.slice (some ⟨b, o, none⟩) xs.length s2.c) ∧ wx.cell? ⟨g, 1, none⟩ = some (.string x.seen)) 14 (by kernel_rfl) HS1.out (fun hHeld => ?_)
        refine tT 0 (some 29) (.pointer (some ⟨r, 0, none⟩)) rfl hHeld ?_
        simp only [Act.put, pA, pB, pC]
        refine tT 1 (some 30) (.pointer (some ⟨r, 0, none⟩)) rfl hHeld ?_
        simp only [Act.put, pA, pB, pC]
        refine tT 2 (some 31) (.pointer (some ⟨r, 0, none⟩)) rfl hHeld ?_
        simp only [Act.put, pA, pB, pC]
        refine tT 3 (some 32) (.pointer (some ⟨r, 1, none⟩)) rfl hHeld ?_
        simp only [Act.put, pA, pB, pC]
        refine tU 4 (some 33) (.slice (some ⟨b, o, none⟩) xs.length s2.c) rfl (fun w hw => by have hw' := hw.1; first | rfl | (go_simp; done) | (go_simp; rfl)) hHeld ?_
        simp only [Act.put, pA, pB, pC]
        refine tT 5 (some 34) (.string t) rfl hHeld ?_
        simp only [Act.put, pA, pB, pC]
        refine tT 6 (some 35) (.pointer (some ⟨g, 1, none⟩)) rfl hHeld ?_
        simp only [Act.put, pA, pB, pC]
        refine tU 7 (some 36) (.string x.seen) rfl (fun w hw => by have hw' := hw.2; first | rfl | (go_simp; done) | (go_simp; rfl)) hHeld ?_
        simp only [Act.put, pA, pB, pC]
        refine tT 8 (some 37) (.pointer (some ⟨g, 1, none⟩)) rfl hHeld ?_
        simp only [Act.put, pA, pB, pC]
        refine tU 9 (some 38) (.string x.seen) rfl (fun w hw => by have hw' := hw.2; first | rfl | (go_simp; done) | (go_simp; rfl)) hHeld ?_
        simp only [Act.put, pA, pB, pC]
        refine tT 10 (some 39) (.agg #[.string t, .string x.seen, .string x.seen, .slice none 0 0]) rfl hHeld ?_
        simp only [Act.put, pA, pB, pC]
        refine readyT 11 (by kernel_rfl) rfl (by rfl) (fun K hK => ?_)
        go_simp
        refine HPUT.out.mono ?_
        rintro e w4 ⟨v, rfl, ho, hb⟩
        try go_wp2_with fail
        have hb4 := HBD.out _ hb
        have HS4 : Hid (w4.cell? ⟨r, 1, none⟩ = some (.slice (some ⟨b, o, none⟩) xs.length s2.c) ∧ w4.cell? ⟨g, 1, none⟩ = some (.string x.seen)) := ⟨by rw [World.cell?_of_block (hb4.block r (Nat.lt_of_lt_of_le HLT.out HB3.out.size))]; exact HS1.out.1, by rw [World.cell?_of_block (hb4.block g HGL.out)]; exact HS1.out.2⟩
        have hfin := HH2.out.relist HR2.out HB3.out ho hb4 (fun y hy => by
          rcases putR_mem hy with rfl | hy
          · exact .inr ⟨.inl rfl, fun hd => absurd rfl hd, (dirtyI_none _ _).symm⟩
          · exact .inl hy) _ (putR_abs _ _)
        obtain ⟨ad4, cap4, rfl, _, _, _⟩ := own_at ho
        have HFI := hide hfin
        have g1 : w4.frozen? ⟨r, 1, none⟩ = false := frozen_of_row w4 r 1 _ _ (by rw [hb4.block r (Nat.lt_of_lt_of_le HLT.out HB3.out.size), HB3.out.block r HLT.out]; exact HH2.out.cells)
        refine hK.out _ _ (fun _ => HS4.out) (fun hH => ?_)
        have hHeld := hH (by decide)
        clear hK K hH ho hb hb4 hfin
        have g2 := HS4.out.1
        refine readyT 12 (by kernel_rfl) rfl (by rfl) (fun K hK => ?_)
        go_simp
        refine hK.out _ _ (fun _ => hHeld) (fun hH => ?_)
        clear hHeld
        have hHeld := hH (by decide)
        clear hK K hH
        refine readyT 13 (by kernel_rfl) rfl (by rfl) (fun K hK => ?_)
        go_simp
        refine hK.out _ _ (fun _ => hHeld) (fun hH => ?_)
        clear hHeld
        have hHeld := hH (by decide)
        clear hK K hH
        refine readyT 14 (by kernel_rfl) rfl (by rfl) (fun K hK => ?_)
        go_simp
        refine hK.out _ _ (fun hx => absurd rfl hx) (fun hH => ?_)
        refine ⟨by kernel_rfl, ?_⟩
        refine NoPanic.normal ?_
        clear hHeld hK K hH g1 g2
        go_wp2
        go_ret
        obtain ⟨s', S', q1, q2, q3⟩ := HFI.out
        have e1 : fput A.fs t.data.toList F.sync = fset A.fs t.data.toList F.sync := fput_fset HOK.out.sorted HG.out
        refine ⟨rfl, s', _, S', q1, ?_, HST.out.trans q3⟩
        rw [← e1]
        have e2 : (⟨t, x.seen, x.seen, none, 0, []⟩ : RF).abs = (t.data.toList, F.sync) := by
          have e3 : x.abs.2.seen = F.seen := by rw [HAB.out]
          have e4 : x.seen.data.toList = F.seen := e3
          show (t.data.toList, (⟨x.seen.data.toList, x.seen.data.toList, fun s => ([] : List Int).contains (s : Int)⟩ : AF)) = _
          rw [e4]
          rfl
        have e5 : (⟨t, x.seen, x.seen, none, 0, []⟩ : RF).abs.1 = t.data.toList := rfl
        have e6 : (⟨t, x.seen, x.seen, none, 0, []⟩ : RF).abs.2 = F.sync := by rw [e2]
        rw [e5, e6, ← HFS.out] at q2
        exact q2
      · have dc : (cn == 0) = false := beq_eq_false_iff_ne.2 hc0
        have dc2 : (cn != 0) = true := by unfold bne; rw [dc]; rfl
        rw [if_pos hc0]
        clear hc0
        go_enter Tryz.func88, Tryz.ntmps88
        go_wp2_with fail
        refine hfind.mono ?_
        rintro e w1 ⟨rfl, rfl⟩
        clear hfind
        go_wp2_with fail
        refine href.mono ?_
        rintro e w2 ⟨rfl, s2, h2, hr2, ht2⟩
        have H2 := hide h2
        have HR2 := hide hr2
        have HST := hide (step_self HH.out ht2)
        clear href h2 hr2 ht2
        go_wp2
        go_ret
        exact ⟨rfl, s2, xs, S, H2.out, HR2.out, HST.out⟩
end
end Go.Proofs.YtlkimfmilccanaaGreat
/-
  The document's disk: Rename.
-/
namespace Go.Proofs.YtlkimfmilccanaaGreat
open Go.RowKit Go.Maps Go.WideMaps
set_option linter.unusedVariables false
set_option linter.unusedSimpArgs false
section
variable {w w1 w2 : World} {r : Nat} {s : RS} {xs : List RF} {S : Nat → Prop} {A : AD}
set_option maxRecDepth 5000 in
set_option maxHeartbeats 4000000 in
theorem rRename_any (h : RefAt w r s xs S) (hr : RRel s xs A) (hok : A.Ok) (t : ByteArray) (u : ByteArray) (hu : u.size ≤ maxLen) : Calls Tryz.prog 114 #[.pointer (some ⟨r, 0, none⟩), .string t, .string u] w fun e w' => e = .returned (.int .i64 (A.rename t.data.toList u.data.toList).1) ∧ ∃ s' xs' S', RefAt w' r s' xs' S' ∧ RRel s' xs' (A.rename t.data.toList u.data.toList).2 ∧ Step S S' w w' := by
  have c5 : w.cell? ⟨r, 5, none⟩ = some (.bool A.pow.off) := by rw [← hr.pow.off]; exact h.c 5
  have c1 : w.cell? ⟨r, 1, none⟩ = some (.slice s.ad xs.length s.c) := by rw [← hr.n]; exact h.c 1
  have hl : xs.length ≤ 16 := by have := hok.few; rw [hr.fs, List.length_map] at this; exact this
  have hfind := rFind_any h hr.n (by omega) t
  have hname := rName_any u hu w
  have HH := hide h
  have HR := hide hr
  have HFS := hide hr.fs
  have hff := h.files
  have hlt : r < w.heap.size := h.lt r h.self
  have HUS := hide h.use
  obtain ⟨ad, had⟩ : ∃ ad, s.ad = ad := ⟨_, rfl⟩
  rw [had] at c1 hff HUS
  have HFF := hide hff
  clear h hr hok had hff
  unfold AD.rename
  cases hoff : A.pow.off with
  | true =>
    rw [hoff] at c5
    rw [if_pos rfl]
    clear hfind hoff hname
    go_enter Tryz.func114, Tryz.ntmps114
    go_wp2
    go_ret
    exact ⟨rfl, s, xs, S, HH.out, HR.out, Step.refl _ _⟩
  | false =>
    rw [hoff] at c5
    rw [if_neg (by simp)]
    cases hg : fget A.fs t.data.toList with
    | none =>
      rw [HFS.out] at hg
      rw [find_none hg] at hfind
      clear hg hoff hname
      go_enter Tryz.func114, Tryz.ntmps114
      go_wp2_with fail
      refine hfind.mono ?_
      rintro e w1 ⟨rfl, rfl⟩
      clear hfind
      go_wp2
      go_ret
      exact ⟨rfl, s, xs, S, HH.out, HR.out, Step.refl _ _⟩
    | some F =>
      have HG := hide hg
      rw [HFS.out] at hg
      obtain ⟨i, hi, hfi, hab⟩ := find_some hg
      rw [hfi] at hfind
      have hk0 : (0 : Int) ≤ (i : Int) := by omega
      have hk1 : (i : Int) < (xs.length : Int) := by omega
      have dk : decide ((i : Int) < 0) = false := decide_eq_false (by omega)
      obtain ⟨b, o, rfl, hbl, hcs⟩ := HFF.out.cells hi
      obtain ⟨x, hx⟩ : ∃ x, xs[i] = x := ⟨_, rfl⟩
      have hxm : x ∈ xs := by rw [← hx]; exact List.getElem_mem hi
      have HXM := hide hxm
      rw [hx] at hab hcs
      have HAB := hide hab
      simp only
      cases hnm : nameOk u.data.toList with
      | false =>
        rw [if_pos rfl]
        rw [hnm] at hname
        clear hg hoff hab hfi hx hcs hxm hnm
        go_enter Tryz.func114, Tryz.ntmps114
        go_wp2_with fail
        refine hfind.mono ?_
        rintro e w1 ⟨rfl, rfl⟩
        clear hfind
        go_wp2_with fail
        refine hname.mono ?_
        rintro e w1 ⟨rfl, rfl⟩
        clear hname
        go_wp2
        go_ret
        exact ⟨rfl, s, xs, S, HH.out, HR.out, Step.refl _ _⟩
      | true =>
        rw [if_neg (by simp)]
        rw [hnm] at hname
        have f0 : w.cell? ⟨b, o + i * 4, none⟩ = some (.string x.name) := hcs 0 (by omega)
        have f1 : w.cell? ⟨b, o + i * 4 + 1, none⟩ = some (.string x.seen) := hcs 1 (by omega)
        have f2 : w.cell? ⟨b, o + i * 4 + 2, none⟩ = some (.string x.safe) := hcs 2 (by omega)
        have f3 : w.cell? ⟨b, o + i * 4 + 3, none⟩ = some (.slice x.ad x.ds.length x.cap) := hcs 3 (by omega)
        obtain ⟨g, hgg⟩ : ∃ g, w.heap.size = g := ⟨_, rfl⟩
        obtain ⟨f, hf⟩ : ∃ f : RF, f = ⟨u, x.seen, x.safe, x.ad, x.cap, x.ds⟩ := ⟨_, rfl⟩
        obtain ⟨w3, hw3⟩ : ∃ w3, w.alloc (.cells f.cs 147) = w3 := ⟨_, rfl⟩
        have hb3 : Below w.heap.size w w3 := by rw [← hw3]; exact (Below.refl _ _).alloc (Nat.le_refl _) _
        have hblk : w3.heap[g]? = some (.cells f.cs 147 (0, 0)) := by rw [← hw3, ← hgg]; exact heap_alloc_new w _
        rw [hf] at hw3 hblk
        unfold RF.cs at hw3
        simp only at hw3
        have HGC : Hid (∀ j, w3.cell? ⟨g, j, none⟩ = (#[.string u, .string x.seen, .string x.safe, .slice x.ad x.ds.length x.cap] : Array Value)[j]?) := fun j => by rw [cell_of_row w3 g j _ _ (0, 0) hblk]; rfl
        have HS1 : Hid (w3.cell? ⟨r, 1, none⟩ = some (.slice (some ⟨b, o, none⟩) xs.length s.c) ∧ w3.cell? ⟨g, 0, none⟩ = some (.string u) ∧ w3.cell? ⟨g, 1, none⟩ = some (.string x.seen) ∧ w3.cell? ⟨g, 2, none⟩ = some (.string x.safe) ∧ w3.cell? ⟨g, 3, none⟩ = some (.slice x.ad x.ds.length x.cap)) := ⟨by rw [World.cell?_of_block (hb3.block r hlt)]; exact c1, HGC.out 0, HGC.out 1, HGC.out 2, HGC.out 3⟩
        have hfd : Files w3.drew (some ⟨b, o, none⟩) xs := (HFF.out.below hb3).below ⟨rfl, rfl, rfl, Nat.le_refl _, fun _ _ => rfl⟩
        have HFD := hide hfd
        have HWO := hide (without_any w3.drew (some ⟨b, o, none⟩) s.c xs hfd (by omega) t)
        have HBD : Hid (∀ w4, Below w3.drew.heap.size w3.drew w4 → Below w3.heap.size w3 w4) := fun w4 hb => ⟨hb.os, hb.tape, hb.output, hb.size, hb.block⟩
        have HGL := hide (lt_of_some hblk)
        have HLT := hide hlt
        have HB3 := hide hb3
        have HF := hide hf
        clear hg hoff hab hfi hx hcs hxm hnm hb3 hblk hlt hfd hf
        go_enter Tryz.func114, Tryz.ntmps114
        go_wp2_with fail
        refine hfind.mono ?_
        rintro e w1 ⟨rfl, rfl⟩
        clear hfind
        go_wp2_with fail
        refine hname.mono ?_
        rintro e w1 ⟨rfl, rfl⟩
        clear hname
        go_wp2
        clear hw3 hgg
        refine wp_region_noPanic ?_
        refine wp_region_T (S := fun wx => wx.cell? ⟨r, 1, none⟩ = some (.slice (some ⟨b, o, none⟩) xs.length s.c) ∧ wx.cell? ⟨g, 0, none⟩ = some (.string u) ∧ wx.cell? ⟨g, 1, none⟩ = some (.string x.seen) ∧ wx.cell? ⟨g, 2, none⟩ = some (.string x.safe) ∧ wx.cell? ⟨g, 3, none⟩ = some (.slice x.ad x.ds.length x.cap)) 11 (by kernel_rfl) HS1.out (fun hHeld => ?_)
        refine tT 0 (some 30) (.pointer (some ⟨r, 0, none⟩)) rfl hHeld ?_
        simp only [Act.put, pA, pB, pC]
        refine tT 1 (some 31) (.pointer (some ⟨r, 0, none⟩)) rfl hHeld ?_
        simp only [Act.put, pA, pB, pC]
        refine tT 2 (some 32) (.pointer (some ⟨r, 0, none⟩)) rfl hHeld ?_
        simp only [Act.put, pA, pB, pC]
        refine tT 3 (some 33) (.pointer (some ⟨r, 1, none⟩)) rfl hHeld ?_
        simp only [Act.put, pA, pB, pC]
        refine tU 4 (some 34) (.slice (some ⟨b, o, none⟩) xs.length s.c) rfl (fun w hw => by have hw' := hw.1; first | rfl | (go_simp; done) | (go_simp; rfl)) hHeld ?_
        simp only [Act.put, pA, pB, pC]
        refine tT 5 (some 35) (.string t) rfl hHeld ?_
        simp only [Act.put, pA, pB, pC]
        refine tU 7 (some 37) (.agg #[.string u, .string x.seen, .string x.safe, .slice x.ad x.ds.length x.cap]) rfl (fun w hw => by obtain ⟨_, q0, q1, q2, q3⟩ := hw; first | rfl | (go_simp; done) | (go_simp; rfl)) hHeld ?_
        simp only [Act.put, pA, pB, pC]
        refine readyT 6 (by kernel_rfl) rfl (by rfl) (fun K hK => ?_)
        go_simp
        refine HWO.out.mono ?_
        rintro e w4 ⟨v, rfl, ho, hb⟩
        try go_wp2_with fail
        have hb4 := HBD.out _ hb
        have KP : Hid (∀ w', Below w3.heap.size w3 w' → w'.cell? ⟨r, 1, none⟩ = some (.slice (some ⟨b, o, none⟩) xs.length s.c) ∧ w'.cell? ⟨g, 0, none⟩ = some (.string u) ∧ w'.cell? ⟨g, 1, none⟩ = some (.string x.seen) ∧ w'.cell? ⟨g, 2, none⟩ = some (.string x.safe) ∧ w'.cell? ⟨g, 3, none⟩ = some (.slice x.ad x.ds.length x.cap)) := fun w' hw => by
          have e1 := hw.block r (Nat.lt_of_lt_of_le HLT.out HB3.out.size)
          have e2 := hw.block g HGL.out
          exact ⟨(World.cell?_of_block e1).trans HS1.out.1, (World.cell?_of_block e2).trans HS1.out.2.1, (World.cell?_of_block e2).trans HS1.out.2.2.1, (World.cell?_of_block e2).trans HS1.out.2.2.2.1, (World.cell?_of_block e2).trans HS1.out.2.2.2.2⟩
        obtain ⟨ad4, cap4, rfl, hrow4, _, _⟩ := own_at ho
        have hf4 : Files w4 ad4 (delR xs t.data.toList) := ⟨hrow4, fun y hy => (HFD.out.dirty y (delR_mem hy)).below hb⟩
        have HPUT := hide (put_any w4 ad4 cap4 (delR xs t.data.toList) hf4 (Nat.le_trans (delR_few _ _) (by omega)) f)
        rw [HF.out] at HPUT
        have HB4 := hide hb4
        refine hK.out _ _ (fun _ => KP.out _ hb4) (fun hH => ?_)
        have hHeld := hH (by decide)
        clear hK K hH ho hb hb4 hrow4 hf4
        refine readyT 8 (by kernel_rfl) rfl (by rfl) (fun K hK => ?_)
        go_simp
        refine HPUT.out.mono ?_
        rintro e w5 ⟨v, rfl, ho, hb⟩
        try go_wp2_with fail
        have hb5 := HB4.out.trans (hb.mono HB4.out.size)
        have hfin := HH.out.relist HR.out (HB3.out.trans (HB4.out.mono HB3.out.size)) ho hb (fun y hy => by
          rcases putR_mem hy with rfl | hy
          · refine .inr ⟨((HFF.out.dirty x HXM.out).below HB3.out).below HB4.out, fun hd b o ha => .inl (HUS.out b (.inr ⟨x, HXM.out, hd, o, ha⟩)), HR.out.ds x HXM.out⟩
          · exact .inl (delR_mem hy)) _ (putR_abs _ _)
        obtain ⟨ad5, cap5, rfl, _, _, _⟩ := own_at ho
        have HFI := hide hfin
        have g1 : w5.frozen? ⟨r, 1, none⟩ = false := frozen_of_row w5 r 1 _ _ (by rw [hb5.block r (Nat.lt_of_lt_of_le HLT.out HB3.out.size), HB3.out.block r HLT.out]; exact HH.out.cells)
        have HS5 := hide (KP.out _ hb5)
        refine hK.out _ _ (fun _ => HS5.out) (fun hH => ?_)
        clear hHeld
        have hHeld := hH (by decide)
        clear hK K hH ho hb hb5 hfin
        have g2 := HS5.out.1
        refine readyT 9 (by kernel_rfl) rfl (by rfl) (fun K hK => ?_)
        go_simp
        refine hK.out _ _ (fun _ => hHeld) (fun hH => ?_)
        clear hHeld
        have hHeld := hH (by decide)
        clear hK K hH
        refine readyT 10 (by kernel_rfl) rfl (by rfl) (fun K hK => ?_)
        go_simp
        refine hK.out _ _ (fun _ => hHeld) (fun hH => ?_)
        clear hHeld
        have hHeld := hH (by decide)
        clear hK K hH
        refine readyT 11 (by kernel_rfl) rfl (by rfl) (fun K hK => ?_)
        go_simp
        refine hK.out _ _ (fun hx => absurd rfl hx) (fun hH => ?_)
        refine ⟨by kernel_rfl, ?_⟩
        refine NoPanic.normal ?_
        clear hHeld hK K hH
        clear g1 g2
        go_wp2
        go_ret
        obtain ⟨s', S', q1, q2, q3⟩ := HFI.out
        refine ⟨rfl, s', _, S', q1, ?_, q3⟩
        have e1 : x.abs.2 = F := by rw [HAB.out]
        have e5 : (⟨u, x.seen, x.safe, x.ad, x.cap, x.ds⟩ : RF).abs.1 = u.data.toList := rfl
        have e6 : (⟨u, x.seen, x.safe, x.ad, x.cap, x.ds⟩ : RF).abs.2 = F := e1
        rw [e5, e6, delR_abs, ← HFS.out] at q2
        exact q2
end
end Go.Proofs.YtlkimfmilccanaaGreat
