/-
  The document's disk: Truncate.
-/
import Derived.Test.YtlkimfmilccanaaGreatRefWrite
namespace Go.Proofs.YtlkimfmilccanaaGreat
open Go.RowKit Go.Maps Go.WideMaps
set_option linter.unusedVariables false
set_option linter.unusedSimpArgs false
def cutDs (ds : List Int) (n : Nat) : List Int := ds.filter (fun d => decide (d * 64 < (n : Int)))
theorem cutDs_snoc (ds : List Int) (n k : Nat) (h : k < ds.length) : cutDs (ds.take (k + 1)) n = cutDs (ds.take k) n ++ (if ds[k] * 64 < (n : Int) then [ds[k]] else []) := by
  unfold cutDs
  rw [take_snoc ds k h, List.filter_append, List.filter_cons, List.filter_nil]
  congr 1
  by_cases e : ds[k] * 64 < (n : Int)
  · rw [if_pos e, if_pos (decide_eq_true e)]
  · rw [if_neg e, if_neg (by simpa using e)]
theorem cutDs_few (ds : List Int) (n : Nat) : (cutDs ds n).length ≤ ds.length := List.length_filter_le ..
theorem range_filter_cut (p : Nat → Bool) (m k : Nat) (h : m ≤ k) (hp : ∀ a, m ≤ a → p a = false) : (List.range k).filter p = (List.range m).filter p := by
  have e : k = m + (k - m) := by omega
  rw [e, List.range_add, List.filter_append]
  have e4 : List.filter p (List.map (fun x => m + x) (List.range (k - m))) = [] := by
    rw [List.filter_eq_nil_iff]
    intro a ha
    obtain ⟨x, _, rfl⟩ := List.mem_map.1 ha
    rw [hp _ (Nat.le_add_right _ _)]
    simp
  rw [e4, List.append_nil]
theorem cutDs_all {F : AF} (h : F.Ok) (n : Nat) (hn : n ≤ F.seen.length) : cutDs (dirtyI F) n = dirtyI (F.trunc n) := by
  unfold cutDs dirtyI AF.dirtyL
  rw [List.filter_map, List.filter_filter]
  congr 1
  have e1 : (F.trunc n).nsec = (n + 63) / 64 := by
    unfold AF.nsec AF.trunc
    simp only [List.length_take]
    rw [Nat.min_eq_left hn]
  have e2 : (F.trunc n).nsec ≤ F.nsec := by rw [e1]; unfold AF.nsec; omega
  rw [range_filter_cut _ _ _ e2 (fun a ha => ?_)]
  · refine List.filter_congr (fun a ha => ?_)
    show (decide ((a : Int) * 64 < (n : Int)) && F.dirty a) = (F.dirty a && decide (64 * a < n))
    rw [Bool.and_comm]
    congr 1
    exact decide_eq_decide.2 (by omega)
  · show (decide ((a : Int) * 64 < (n : Int)) && F.dirty a) = false
    rw [decide_eq_false (by rw [e1] at ha; omega)]
    rfl
section
variable {w w1 w2 : World} {r : Nat} {s : RS} {xs : List RF} {S : Nat → Prop} {A : AD}
set_option maxRecDepth 5000 in
set_option maxHeartbeats 16000000 in
theorem rTrunc_any (h : RefAt w r s xs S) (hr : RRel s xs A) (hok : A.Ok) (t : ByteArray) (n : Int) : Calls Tryz.prog 60 #[.pointer (some ⟨r, 0, none⟩), .string t, .int .i64 n] w fun e w' => e = .returned (.int .i64 (A.trunc t.data.toList n).1) ∧ ∃ s' xs' S', RefAt w' r s' xs' S' ∧ RRel s' xs' (A.trunc t.data.toList n).2 ∧ Step S S' w w' := by
  have c5 : w.cell? ⟨r, 5, none⟩ = some (.bool A.pow.off) := by rw [← hr.pow.off]; exact h.c 5
  have c1 : w.cell? ⟨r, 1, none⟩ = some (.slice s.ad xs.length s.c) := by rw [← hr.n]; exact h.c 1
  have hl : xs.length ≤ 16 := by have := hok.few; rw [hr.fs, List.length_map] at this; exact this
  have hfind := rFind_any h hr.n (by omega) t
  have HH := hide h
  have HR := hide hr
  have HFS := hide hr.fs
  have HOK := hide hok
  have hff := h.files
  have hlt : r < w.heap.size := h.lt r h.self
  obtain ⟨ad, had⟩ : ∃ ad, s.ad = ad := ⟨_, rfl⟩
  rw [had] at c1 hff
  have HFF := hide hff
  have HAD := hide had
  have HLT := hide hlt
  clear h hr hok had hff hlt
  unfold AD.trunc
  cases hoff : A.pow.off with
  | true =>
    rw [hoff] at c5
    rw [if_pos rfl]
    clear hfind hoff
    go_enter Tryz.func60, Tryz.ntmps60
    go_wp2
    go_ret
    exact ⟨rfl, s, xs, S, HH.out, HR.out, Step.refl _ _⟩
  | false =>
    rw [hoff] at c5
    rw [if_neg (by simp)]
    cases hg : fget A.fs t.data.toList with
    | none =>
      rw [HFS.out] at hg
      rw [find_none hg] at hfind
      clear hg hoff
      go_enter Tryz.func60, Tryz.ntmps60
      go_wp2_with fail
      refine hfind.mono ?_
      rintro e w1 ⟨rfl, rfl⟩
      clear hfind
      go_wp2
      go_ret
      exact ⟨rfl, s, xs, S, HH.out, HR.out, Step.refl _ _⟩
    | some F =>
    have HG := hide hg
    have HFO := hide (HOK.out.files _ (fget_mem hg))
    rw [HFS.out] at hg
    obtain ⟨i, hi, hfi, hab⟩ := find_some hg
    rw [hfi] at hfind
    have hk0 : (0 : Int) ≤ (i : Int) := by omega
    have hk1 : (i : Int) < (xs.length : Int) := by omega
    have dk : decide ((i : Int) < 0) = false := decide_eq_false (by omega)
    obtain ⟨b, o, rfl, hbl, hcs⟩ := HFF.out.cells hi
    obtain ⟨x, hx⟩ : ∃ x, xs[i] = x := ⟨_, rfl⟩
    have hxm : x ∈ xs := by rw [← hx]; exact List.getElem_mem hi
    have HXM := hide hxm
    rw [hx] at hab hcs
    have hxds : x.ds = dirtyI F := by have := HR.out.ds x hxm; rw [hab] at this; exact this
    have hxse : x.seen.data.toList = F.seen := congrArg (fun p => AF.seen p.2) hab
    have hxsa : x.safe.data.toList = F.safe := congrArg (fun p => AF.safe p.2) hab
    have HXD := hide hxds
    have HXE := hide hxse
    have HXA := hide hxsa
    have f0 : w.cell? ⟨b, o + i * 4, none⟩ = some (.string x.name) := hcs 0 (by omega)
    have f1 : w.cell? ⟨b, o + i * 4 + 1, none⟩ = some (.string x.seen) := hcs 1 (by omega)
    have f2 : w.cell? ⟨b, o + i * 4 + 2, none⟩ = some (.string x.safe) := hcs 2 (by omega)
    have f3 : w.cell? ⟨b, o + i * 4 + 3, none⟩ = some (.slice x.ad x.ds.length x.cap) := hcs 3 (by omega)
    obtain ⟨z, hz⟩ : ∃ z, x.seen.size = z := ⟨_, rfl⟩
    have hzF : F.seen.length = z := by rw [← hxse, str_len, hz]
    have hzm : z ≤ 1048576 := by rw [← hzF]; exact HFO.out.most
    have HZF := hide hzF
    obtain ⟨g, hgg⟩ : ∃ g, w.heap.size = g := ⟨_, rfl⟩
    obtain ⟨w3, hw3⟩ : ∃ w3, w.alloc (.cells x.cs 147) = w3 := ⟨_, rfl⟩
    have hb3 : Below w.heap.size w w3 := by rw [← hw3]; exact (Below.refl _ _).alloc (Nat.le_refl _) _
    have hk3 : w3.heap[g]? = some (.cells x.cs 147 (0, 0)) := by rw [← hw3, ← hgg]; exact heap_alloc_new w _
    unfold RF.cs at hw3
    have HB3 := hide hb3
    have HK3 := hide hk3
    have HGG := hide hgg
    have HEND : Hid (∀ w', Below w.heap.size w w' → ∃ s' xs' S', RefAt w' r s' xs' S' ∧ RRel s' xs' A ∧ Step S S' w w') := fun w' hb => by
      obtain ⟨q1, q2⟩ := HH.out.under hb
      exact ⟨s, xs, S, q1, HR.out, q2⟩
    have HNF : Hid ((n < 0 ∨ n > (F.seen.length : Int)) ↔ (n < 0 ∨ (z : Int) < n)) := by show _ ↔ _; rw [hzF]
    simp only
    clear hg hoff hab hfi hx hcs hxm hxds hxse hxsa hzF hb3 hk3
    by_cases hbad : n < 0 ∨ (z : Int) < n
    · rw [if_pos (HNF.out.2 hbad)]
      by_cases h0 : n < 0
      · have d0 : decide (n < 0) = true := decide_eq_true h0
        clear hbad h0
        go_enter Tryz.func60, Tryz.ntmps60
        go_wp2_with fail
        refine hfind.mono ?_
        rintro e w1 ⟨rfl, rfl⟩
        clear hfind
        go_wp2
        go_ret
        exact ⟨rfl, HEND.out _ HB3.out⟩
      · have d0 : decide (n < 0) = false := decide_eq_false h0
        have d1 : decide ((z : Int) < n) = true := decide_eq_true (by omega)
        have gc1 : w3.cell? ⟨g, 1, none⟩ = some (.string x.seen) := by rw [cell_of_row w3 g 1 _ _ (0, 0) HK3.out]; rfl
        clear hbad h0
        go_enter Tryz.func60, Tryz.ntmps60
        go_wp2_with fail
        refine hfind.mono ?_
        rintro e w1 ⟨rfl, rfl⟩
        clear hfind
        go_wp2
        go_ret
        exact ⟨rfl, HEND.out _ HB3.out⟩
    rw [if_neg (fun hx => hbad (HNF.out.1 hx))]
    obtain ⟨nn, rfl⟩ : ∃ nn : Nat, n = (nn : Int) := ⟨n.toNat, by omega⟩
    have d0 : decide ((nn : Int) < 0) = false := decide_eq_false (by omega)
    have d1 : decide ((z : Int) < (nn : Int)) = false := decide_eq_false (by omega)
    have d1' : ¬ z < nn := by omega
    have hnz : nn ≤ z := by omega
    have gc1 : w3.cell? ⟨g, 1, none⟩ = some (.string x.seen) := by rw [cell_of_row w3 g 1 _ _ (0, 0) HK3.out]; rfl
    have gc2 : w3.cell? ⟨g, 2, none⟩ = some (.string x.safe) := by rw [cell_of_row w3 g 2 _ _ (0, 0) HK3.out]; rfl
    obtain ⟨zs, hzs⟩ : ∃ zs, x.safe.size = zs := ⟨_, rfl⟩
    obtain ⟨m, hm⟩ : ∃ m, min nn zs = m := ⟨_, rfl⟩
    have hmi : min (nn : Int) (zs : Int) = (m : Int) := by omega
    have hmz : m ≤ zs := by omega
    obtain ⟨V1, hV1⟩ : ∃ V, x.seen.extract 0 nn = V := ⟨_, rfl⟩
    obtain ⟨V2, hV2⟩ : ∃ V, x.safe.extract 0 m = V := ⟨_, rfl⟩
    have HV1 : Hid (V1.data.toList = F.seen.take nn) := by
      show _ = _
      rw [← hV1, ByteArray.data_extract]
      simp only [Array.toList_extract, List.extract, Nat.sub_zero, List.drop_zero]
      rw [HXE.out]
    have HV2 : Hid (V2.data.toList = F.safe.take nn) := by
      show _ = _
      rw [← hV2, ByteArray.data_extract]
      simp only [Array.toList_extract, List.extract, Nat.sub_zero, List.drop_zero]
      rw [HXA.out, ← hm]
      exact (List.take_eq_take_iff.2 (by have : F.safe.length = zs := by rw [← HXA.out, str_len, hzs]
                                         omega)).symm
    have HS1 : Hid (w3.cell? ⟨g, 1, none⟩ = some (.string x.seen) ∧ w3.cell? ⟨g, 2, none⟩ = some (.string x.safe)) := ⟨gc1, gc2⟩
    have HS2 : Hid ((w3.alloc (.cells #[.string ⟨#[]⟩, .string ⟨#[]⟩, .string ⟨#[]⟩, .slice none 0 0] 147)).drew.cell? ⟨g, 1, none⟩ = some (.string x.seen) ∧ (w3.alloc (.cells #[.string ⟨#[]⟩, .string ⟨#[]⟩, .string ⟨#[]⟩, .slice none 0 0] 147)).drew.cell? ⟨g, 2, none⟩ = some (.string x.safe)) := ⟨(World.cell?_alloc_lt w3 _ _ (lt_of_some HK3.out)).trans gc1, (World.cell?_alloc_lt w3 _ _ (lt_of_some HK3.out)).trans gc2⟩
    clear hbad hm HNF
    go_enter Tryz.func60, Tryz.ntmps60
    go_wp2_with fail
    refine hfind.mono ?_
    rintro e w1 ⟨rfl, hw1⟩
    obtain rfl := hw1.symm
    clear hfind hw1
    go_wp2
    refine wp_region_noPanic ?_
    refine wp_region_T (S := fun wx => wx.cell? ⟨g, 1, none⟩ = some (.string x.seen) ∧ wx.cell? ⟨g, 2, none⟩ = some (.string x.safe)) 15 (by kernel_rfl) HS1.out (fun hHeld => ?_)
    refine tT 0 (some 36) (.string t) rfl hHeld ?_
    simp only [Act.put, pA, pB, pC]
    refine tT 1 (some 37) (.pointer (some ⟨g, 1, none⟩)) rfl hHeld ?_
    simp only [Act.put, pA, pB, pC]
    refine tU 2 (some 38) (.string x.seen) rfl (fun w hw => by have hw' := hw.1; first | rfl | (go_simp; done) | (go_simp; rfl)) hHeld ?_
    simp only [Act.put, pA, pB, pC]
    refine tT 3 (some 39) (.int .i64 (nn : Int)) rfl hHeld ?_
    simp only [Act.put, pA, pB, pC]
    refine tT 4 (some 40) (.string V1) rfl hHeld ?_
    simp only [Act.put, pA, pB, pC]
    refine tT 5 (some 41) (.pointer (some ⟨g, 2, none⟩)) rfl hHeld ?_
    simp only [Act.put, pA, pB, pC]
    refine tU 6 (some 42) (.string x.safe) rfl (fun w hw => by have hw' := hw.2; first | rfl | (go_simp; done) | (go_simp; rfl)) hHeld ?_
    simp only [Act.put, pA, pB, pC]
    refine tT 7 (some 43) (.int .i64 (nn : Int)) rfl hHeld ?_
    simp only [Act.put, pA, pB, pC]
    refine tT 8 (some 44) (.pointer (some ⟨g, 2, none⟩)) rfl hHeld ?_
    simp only [Act.put, pA, pB, pC]
    refine tU 9 (some 45) (.string x.safe) rfl (fun w hw => by have hw' := hw.2; first | rfl | (go_simp; done) | (go_simp; rfl)) hHeld ?_
    simp only [Act.put, pA, pB, pC]
    refine tT 10 (some 46) (.int .i64 (zs : Int)) rfl hHeld ?_
    simp only [Act.put, pA, pB, pC]
    refine tT 11 (some 47) (.int .i64 (m : Int)) rfl hHeld ?_
    simp only [Act.put, pA, pB, pC]
    refine tT 12 (some 48) (.string V2) rfl hHeld ?_
    simp only [Act.put, pA, pB, pC]
    refine tT 13 (some 49) (.agg #[.string t, .string V1, .string V2, .slice none 0 0]) rfl hHeld ?_
    simp only [Act.put, pA, pB, pC]
    refine readyT 14 (by kernel_rfl) rfl (by rfl) (fun K hK => ?_)
    go_simp
    refine hK.out _ _ (fun _ => HS2.out) (fun hH => ?_)
    clear hHeld
    have hHeld := hH (by decide)
    clear hK K hH
    refine readyT 15 (by kernel_rfl) rfl (by rfl) (fun K hK => ?_)
    go_simp
    refine hK.out _ _ (fun hx => absurd rfl hx) (fun hH => ?_)
    refine ⟨by kernel_rfl, ?_⟩
    refine NoPanic.normal ?_
    clear hHeld hK K hH
    obtain ⟨gg, hgge⟩ : ∃ gg, w3.heap.size = gg := ⟨_, rfl⟩
    generalize hw7 : (w3.alloc (Obj.cells #[Value.string t, Value.string V1, Value.string V2, Value.slice none 0 0] 147)).drew = w7
    have hk7 : w7.heap[gg]? = some (.cells #[.string t, .string V1, .string V2, .slice none 0 0] 147 (0, 0)) := by rw [← hw7, ← hgge]; exact heap_alloc_new w3 _
    have hb37 : Below w3.heap.size w3 w7 := by rw [← hw7]; exact ⟨rfl, rfl, rfl, by show _ ≤ (w3.alloc _).heap.size; simp, fun b hb => Below.heap_alloc w3 _ b hb⟩
    have hg3 : g < w3.heap.size := lt_of_some HK3.out
    have hkg7 : w7.heap[g]? = some (.cells x.cs 147 (0, 0)) := by rw [hb37.block g hg3]; exact HK3.out
    have hb7 : Below w.heap.size w w7 := HB3.out.trans (hb37.mono HB3.out.size)
    obtain ⟨B7, hB7⟩ : ∃ B, w7.heap.size = B := ⟨_, rfl⟩
    have hgg7 : gg < B7 := by rw [← hB7]; exact lt_of_some hk7
    have hg7 : g < gg := by omega
    have hgw : w.heap.size ≤ g := by rw [HGG.out]; exact Nat.le_refl _
    have HK7 := hide hk7
    have HKG := hide hkg7
    have HBW := hide hb7
    have HB7 := hide hB7
    have HGW := hide hgw
    have hdl : x.ds.length ≤ 16384 := by rw [HXD.out]; unfold dirtyI; rw [List.length_map]; exact AF.dirtyL_length HFO.out
    have HDB : Hid (∀ d ∈ x.ds, 0 ≤ d ∧ d ≤ 16384) := fun d hd => by
      rw [HXD.out] at hd
      obtain ⟨q, hq, rfl⟩ := List.mem_map.1 hd
      have := AF.dirty_lt HFO.out q ((AF.mem_dirtyL HFO.out q).1 hq)
      omega
    have HWA := hide (rfl : w = w)
    rw [hgge]
    clear hw7 hk7 hkg7 hb37 hb7 hB7 hgw hgge gc1 gc2 HS1 HS2 hV1 hV2 hw3 f0 f1 f2 f3 c1 c5 d0 d1 dk hmi
    go_wp2
    go_loopw [10] (fun i wr => ∃ (k : Nat) (v : Value), k ≤ x.ds.length ∧ i = .int .i64 (k : Int) ∧ wr.heap[gg]? = some (.cells #[.string t, .string V1, .string V2, v] 147 (0, 0)) ∧ wr.ownsRow B7 3 1 v (cutDs (x.ds.take k) nn).length ((cutDs (x.ds.take k) nn).map (Value.int .i64)) ∧ wr.heap[g]? = some (.cells x.cs 147 (0, 0)) ∧ Below w.heap.size w wr ∧ B7 ≤ wr.heap.size) (fun i _ => x.ds.length - (intOf i).toNat)
    case atStart => exact ⟨0, .slice none 0 0, by omega, rfl, HK7.out, World.ownsRow_nil _ _ _ _, HKG.out, HBW.out, by rw [HB7.out]; exact Nat.le_refl _⟩
    case round =>
      clear HK7 HKG HBW
      obtain ⟨k, v, hk, rfl, hkgg, hown, hkg, hbr, hBr⟩ := hrel
      have gc3 : wr.cell? ⟨g, 3, none⟩ = some (.slice x.ad x.ds.length x.cap) := by rw [cell_of_row wr g 3 _ _ (0, 0) hkg]; rfl
      by_cases hlt : k < x.ds.length
      · have ek : decide ((k : Int) < (x.ds.length : Int)) = true := decide_eq_true (by omega)
        have hk0 : (0 : Int) ≤ (k : Int) := by omega
        have hk1 : (k : Int) < (x.ds.length : Int) := by omega
        have hsn := cutDs_snoc x.ds nn k hlt
        have hrow := (HFF.out.dirty x HXM.out).below hbr
        rcases hrow with hrow | ⟨b2, o2, hxad, hbl2, hcs2⟩
        · rw [List.map_eq_nil_iff.1 hrow] at hlt; exact absurd hlt (by simp)
        obtain ⟨d, hd⟩ : ∃ d, x.ds[k] = d := ⟨_, rfl⟩
        obtain ⟨hd0, hd1⟩ := HDB.out d (by rw [← hd]; exact List.getElem_mem hlt)
        have fd : wr.cell? ⟨b2, o2 + k, none⟩ = some (.int .i64 d) := by rw [hcs2 k (by simpa using hlt), List.getElem?_map, List.getElem?_eq_getElem hlt, hd]; rfl
        rw [hd] at hsn
        rw [hxad] at gc3
        have HXAD := hide hxad
        clear hxad
        by_cases hcut : d * 64 < (nn : Int)
        · have ed : decide (d * 64 < (nn : Int)) = true := decide_eq_true hcut
          rw [if_pos hcut] at hsn
          have hownd : wr.drew.ownsRow B7 3 1 v (cutDs (x.ds.take k) nn).length ((cutDs (x.ds.take k) nn).map (Value.int .i64)) := hown
          obtain ⟨v2, wb, hap, hr2, hb3⟩ := app_one Tryz.underlying38 info3r rfl (by decide) hownd hBr #[.int .i64 d] rfl (by intro u hu; simp at hu; subst hu; rfl) (by have := cutDs_few (x.ds.take k) nn; rw [List.length_take] at this; omega) (by have := cutDs_few (x.ds.take k) nn; rw [List.length_take] at this; unfold maxLen; omega) 38 (w1 := (wr.alloc (.cells #[.int .i64 d] 3)).drew) rfl (g1 := wr.heap.size) rfl
          have hbb : Below B7 wr wb := ⟨hb3.os, hb3.tape, hb3.output, hb3.size, hb3.block⟩
          have hba : Below wr.heap.size wr (wr.alloc (.cells #[.int .i64 d] 3)).drew := ⟨rfl, rfl, rfl, by show _ ≤ (wr.alloc _).heap.size; simp, fun b hb => Below.heap_alloc wr _ b hb⟩
          have hkb : wb.heap[gg]? = some (.cells #[.string t, .string V1, .string V2, v] 147 (0, 0)) := by rw [hbb.block gg hgg7]; exact hkgg
          have hkbg : wb.heap[g]? = some (.cells x.cs 147 (0, 0)) := by rw [hbb.block g (by omega)]; exact hkg
          have HS1 : Hid (wr.cell? ⟨gg, 3, none⟩ = some v ∧ wr.cell? ⟨g, 3, none⟩ = some (.slice (some ⟨b2, o2, none⟩) x.ds.length x.cap) ∧ wr.cell? ⟨b2, o2 + k, none⟩ = some (.int .i64 d)) := ⟨by rw [cell_of_row wr gg 3 _ _ (0, 0) hkgg]; rfl, gc3, fd⟩
          have HSA : Hid ((wr.alloc (.cells #[.int .i64 d] 3)).drew.cell? ⟨gg, 3, none⟩ = some v ∧ (wr.alloc (.cells #[.int .i64 d] 3)).drew.cell? ⟨g, 3, none⟩ = some (.slice (some ⟨b2, o2, none⟩) x.ds.length x.cap) ∧ (wr.alloc (.cells #[.int .i64 d] 3)).drew.cell? ⟨b2, o2 + k, none⟩ = some (.int .i64 d)) := ⟨(World.cell?_of_block (hba.block gg (by omega))).trans HS1.out.1, (World.cell?_of_block (hba.block g (by omega))).trans HS1.out.2.1, (World.cell?_of_block (hba.block b2 hbl2)).trans HS1.out.2.2⟩
          have hbl7 : b2 < B7 := by
            have hx1 := HFF.out.dirty x HXM.out
            rcases hx1 with hx1 | ⟨b', o', hxa', hl', _⟩
            · rw [List.map_eq_nil_iff.1 hx1] at hlt; exact absurd hlt (by simp)
            · rw [HXAD.out] at hxa'; cases hxa'; have := HGW.out; omega
          have HSB : Hid (wb.cell? ⟨gg, 3, none⟩ = some v ∧ wb.cell? ⟨g, 3, none⟩ = some (.slice (some ⟨b2, o2, none⟩) x.ds.length x.cap) ∧ wb.cell? ⟨b2, o2 + k, none⟩ = some (.int .i64 d)) := ⟨(World.cell?_of_block (hbb.block gg hgg7)).trans HS1.out.1, (World.cell?_of_block (hbb.block g (by omega))).trans HS1.out.2.1, (World.cell?_of_block (hbb.block b2 hbl7)).trans HS1.out.2.2⟩
          have gz : wb.frozen? ⟨gg, 3, none⟩ = false := frozen_of_row wb gg 3 _ _ hkb
          obtain ⟨av, cv, rfl, _, _, hbv⟩ := own_at hr2
          obtain ⟨wc, hwc⟩ : ∃ wc, wb.setCell ⟨gg, 3, none⟩ (.slice av ((cutDs (x.ds.take k) nn).length + 1) cv) = wc := ⟨_, rfl⟩
          have htc : Turn (fun b => b = gg) wb wc := by rw [← hwc]; exact Turn.setCell wb ⟨gg, 3, none⟩ _
          have hkc : wc.heap[gg]? = some (.cells #[.string t, .string V1, .string V2, .slice av ((cutDs (x.ds.take k) nn).length + 1) cv] 147 (0, 0)) := by rw [← hwc, heap_setCell_same wb gg 3 _ _ _ hkb]; rfl
          have hkcg : wc.heap[g]? = some (.cells x.cs 147 (0, 0)) := by rw [htc.block g (lt_of_some hkbg) (by omega)]; exact hkbg
          have hoc : wc.ownsRow B7 3 1 (.slice av ((cutDs (x.ds.take k) nn).length + 1) cv) (cutDs (x.ds.take (k + 1)) nn).length ((cutDs (x.ds.take (k + 1)) nn).map (Value.int .i64)) := by
            rw [hsn, List.length_append, List.map_append]
            refine row_same hr2 (fun b hb => ?_)
            obtain ⟨q1, q2⟩ := World.ownsRow.lt hr2 b hb
            exact htc.block b q2 (by omega)
          have hbc : Below w.heap.size w wc := (hbr.trans (hbb.mono (by have := HGW.out; omega))).trans ⟨htc.os, htc.tape, htc.output, htc.size, fun b hb => htc.block b (by have := hbr.size; have := hbb.size; omega) (by have := HGW.out; omega)⟩
          have hsc : B7 ≤ wc.heap.size := Nat.le_trans (Nat.le_trans hBr hbb.size) htc.size
          have HREL : Hid (wc.heap[gg]? = some (.cells #[.string t, .string V1, .string V2, .slice av ((cutDs (x.ds.take k) nn).length + 1) cv] 147 (0, 0)) ∧ wc.ownsRow B7 3 1 (.slice av ((cutDs (x.ds.take k) nn).length + 1) cv) (cutDs (x.ds.take (k + 1)) nn).length ((cutDs (x.ds.take (k + 1)) nn).map (Value.int .i64)) ∧ wc.heap[g]? = some (.cells x.cs 147 (0, 0)) ∧ Below w.heap.size w wc ∧ B7 ≤ wc.heap.size) := ⟨hkc, hoc, hkcg, hbc, hsc⟩
          have HAP := hide hap
          clear hown hbr hownd hr2 hb3 hbb hba hkb hkbg hkgg hkg hcs2 hd hsn hbv htc hkc hkcg hoc hbc hsc hcut hap
          go_wp2
          refine wp_region_noPanic ?_
          refine wp_region_T (S := fun wx => wx.cell? ⟨gg, 3, none⟩ = some v ∧ wx.cell? ⟨g, 3, none⟩ = some (.slice (some ⟨b2, o2, none⟩) x.ds.length x.cap) ∧ wx.cell? ⟨b2, o2 + k, none⟩ = some (.int .i64 d)) 10 (by kernel_rfl) HS1.out (fun hHeld => ?_)
          refine tT 0 (some 65) (.pointer (some ⟨gg, 3, none⟩)) rfl hHeld ?_
          simp only [Act.put, pA, pB, pC]
          refine tU 1 (some 66) (v) rfl (fun w hw => by have hw' := hw.1; first | rfl | (go_simp; done) | (go_simp; rfl)) hHeld ?_
          simp only [Act.put, pA, pB, pC]
          refine tT 2 (some 67) (.pointer (some ⟨g, 3, none⟩)) rfl hHeld ?_
          simp only [Act.put, pA, pB, pC]
          refine tU 3 (some 68) (.slice (some ⟨b2, o2, none⟩) x.ds.length x.cap) rfl (fun w hw => by have hw' := hw.2.1; first | rfl | (go_simp; done) | (go_simp; rfl)) hHeld ?_
          simp only [Act.put, pA, pB, pC]
          refine tT 4 (some 69) (.int .i64 (k : Int)) rfl hHeld ?_
          simp only [Act.put, pA, pB, pC]
          refine tT 5 (some 70) (.pointer (some ⟨b2, o2 + k, none⟩)) rfl hHeld ?_
          simp only [Act.put, pA, pB, pC]
          refine tU 6 (some 71) (.int .i64 d) rfl (fun w hw => by have hw' := hw.2.2; first | rfl | (go_simp; done) | (go_simp; rfl)) hHeld ?_
          simp only [Act.put, pA, pB, pC]
          refine readyT 7 (by kernel_rfl) rfl (by rfl) (fun K hK => ?_)
          go_simp
          refine hK.out _ _ (fun _ => HSA.out) (fun hH => ?_)
          clear hHeld
          have hHeld := hH (by decide)
          clear hK K hH
          refine readyT 8 (by kernel_rfl) rfl (by rfl) (fun K hK => ?_)
          refine wpRun (run_append_op _ _ _ rfl HAP.out) ?_
          simp only [Act.put, pA, pB, pC]
          refine hK.out _ _ (fun _ => HSB.out) (fun hH => ?_)
          clear hHeld
          have hHeld := hH (by decide)
          clear hK K hH
          have gq := HSB.out.1
          refine readyT 9 (by kernel_rfl) rfl (by rfl) (fun K hK => ?_)
          go_simp
          refine hK.out _ _ (fun _ => hHeld) (fun hH => ?_)
          clear hHeld
          have hHeld := hH (by decide)
          clear hK K hH
          refine readyT 10 (by kernel_rfl) rfl (by rfl) (fun K hK => ?_)
          go_simp
          refine hK.out _ _ (fun hx => absurd rfl hx) (fun hH => ?_)
          refine ⟨by kernel_rfl, ?_⟩
          refine NoPanic.normal ?_
          clear hHeld hK K hH

          clear hwc gz gq gc3 fd
          go_wp2
          go_roundw
          case rel => exact ⟨k + 1, _, by omega, by go_num, HREL.out⟩
          case measure => simp [intOf]; omega
        · have ed : decide (d * 64 < (nn : Int)) = false := decide_eq_false hcut
          rw [if_neg hcut, List.append_nil] at hsn
          have HREL : Hid (wr.heap[gg]? = some (.cells #[.string t, .string V1, .string V2, v] 147 (0, 0)) ∧ wr.ownsRow B7 3 1 v (cutDs (x.ds.take (k + 1)) nn).length ((cutDs (x.ds.take (k + 1)) nn).map (Value.int .i64)) ∧ wr.heap[g]? = some (.cells x.cs 147 (0, 0)) ∧ Below w.heap.size w wr ∧ B7 ≤ wr.heap.size) := ⟨hkgg, by rw [hsn]; exact hown, hkg, hbr, hBr⟩
          clear hown hbr hkgg hkg hcs2 hd hsn hcut
          go_wp2
          go_roundw
          case rel => exact ⟨k + 1, v, by omega, by go_num, HREL.out⟩
          case measure => simp [intOf]; omega
      · have hkl : k = x.ds.length := by omega
        subst hkl
        have ek : decide ((x.ds.length : Int) < (x.ds.length : Int)) = false := decide_eq_false (by omega)
        rw [List.take_length, HXD.out, cutDs_all HFO.out nn (by rw [HZF.out]; exact hnz)] at hown
        obtain ⟨F', hF'⟩ : ∃ F', F.trunc nn = F' := ⟨_, rfl⟩
        rw [hF'] at hown
        have hF'o : F'.Ok := by rw [← hF']; exact HFO.out.trunc nn
        obtain ⟨adv, capv, rfl, hrv, hlv, hbv⟩ := own_at hown
        obtain ⟨h8, hst8⟩ := HH.out.under hbr
        obtain ⟨h9, hst9⟩ := h8.widen hst8
        have hadl : ∀ b o, (dirtyI F') ≠ [] → adv = some ⟨b, o, none⟩ → w.heap.size ≤ b ∧ b < wr.heap.size ∧ b ≠ r := fun b o hne hab => by
          have hb1 := hbv b o hab
          have hb2 : w.heap.size ≤ g := HGW.out
          refine ⟨by omega, ?_, fun e => ?_⟩
          · rcases hrv with hh | ⟨b', o', hab', hl', _⟩
            · exact absurd (List.map_eq_nil_iff.1 hh) hne
            · rw [hab] at hab'; cases hab'; exact hl'
          · have := HLT.out; omega
        have c1 : wr.cell? ⟨r, 1, none⟩ = some (.slice s.ad xs.length s.c) := by rw [← HR.out.n]; exact h8.c 1
        rw [HAD.out] at c1
        have HS1 : Hid (wr.cell? ⟨r, 1, none⟩ = some (.slice (some ⟨b, o, none⟩) xs.length s.c) ∧ wr.cell? ⟨gg, 0, none⟩ = some (.string t) ∧ wr.cell? ⟨gg, 1, none⟩ = some (.string V1) ∧ wr.cell? ⟨gg, 2, none⟩ = some (.string V2) ∧ wr.cell? ⟨gg, 3, none⟩ = some (.slice adv (dirtyI F').length capv)) := ⟨c1, by rw [cell_of_row wr gg 0 _ _ (0, 0) hkgg]; rfl, by rw [cell_of_row wr gg 1 _ _ (0, 0) hkgg]; rfl, by rw [cell_of_row wr gg 2 _ _ (0, 0) hkgg]; rfl, by rw [cell_of_row wr gg 3 _ _ (0, 0) hkgg]; rfl⟩
        obtain ⟨f', hf'⟩ : ∃ f' : RF, f' = ⟨t, V1, V2, adv, capv, dirtyI F'⟩ := ⟨_, rfl⟩
        have hput := put_any wr.drew (some ⟨b, o, none⟩) s.c xs ((HFF.out.below hbr).below (below_drew' wr)) (by omega) f'
        have hab : f'.abs = (t.data.toList, F') := by rw [hf', abs_of hF'o t V1 V2 adv capv (by rw [HV1.out, ← hF']; rfl) (by rw [HV2.out, ← hF']; rfl)]
        have hmem : ∀ y ∈ putR xs f', y ∈ xs ∨ (RowAt wr y.ad (y.ds.map (Value.int .i64)) ∧ (y.ds ≠ [] → ∀ b o, y.ad = some ⟨b, o, none⟩ → ((S b ∨ (w.heap.size ≤ b ∧ b < wr.heap.size)) ∧ b ≠ r) ∨ wr.heap.size ≤ b) ∧ y.ds = dirtyI y.abs.2) := fun y hy => by
          rcases putR_mem hy with rfl | hy
          · right
            refine ⟨by rw [hf']; exact hrv, fun hd b o hh => .inl ?_, by rw [hab, hf']⟩
            rw [hf'] at hd hh
            obtain ⟨q1, q2, q3⟩ := hadl b o hd hh
            exact ⟨.inr ⟨q1, q2⟩, q3⟩
          · exact .inl hy
        have HMEM := hide hmem
        have HAB := hide hab
        have HPUT := hide hput
        rw [hf'] at HPUT
        have H9 := hide h9
        have HST9 := hide hst9
        have HGL := hide (lt_of_some hkgg)
        have HLT8 := hide (h8.lt r h8.self)
        have HRC := hide h8.cells
        have HBD : Hid (∀ w4, Below wr.drew.heap.size wr.drew w4 → Below wr.heap.size wr w4) := fun w4 hb => ⟨hb.os, hb.tape, hb.output, hb.size, hb.block⟩
        have HF' := hide hf'
        have HFT := hide hF'
        clear hown hbr hkgg hkg hrv hbv h8 hst8 h9 hst9 hadl c1 hput hab hmem hf' hlt hF' hF'o
        go_wp2
        clear gc3
        refine wp_region_noPanic ?_
        refine wp_region_T (S := fun wx => wx.cell? ⟨r, 1, none⟩ = some (.slice (some ⟨b, o, none⟩) xs.length s.c) ∧ wx.cell? ⟨gg, 0, none⟩ = some (.string t) ∧ wx.cell? ⟨gg, 1, none⟩ = some (.string V1) ∧ wx.cell? ⟨gg, 2, none⟩ = some (.string V2) ∧ wx.cell? ⟨gg, 3, none⟩ = some (.slice adv (dirtyI F').length capv)) 9 (by kernel_rfl) HS1.out (fun hHeld => ?_)
        refine tT 0 (some 75) (.pointer (some ⟨r, 0, none⟩)) rfl hHeld ?_
        simp only [Act.put, pA, pB, pC]
        refine tT 1 (some 76) (.pointer (some ⟨r, 0, none⟩)) rfl hHeld ?_
        simp only [Act.put, pA, pB, pC]
        refine tT 2 (some 77) (.pointer (some ⟨r, 0, none⟩)) rfl hHeld ?_
        simp only [Act.put, pA, pB, pC]
        refine tT 3 (some 78) (.pointer (some ⟨r, 1, none⟩)) rfl hHeld ?_
        simp only [Act.put, pA, pB, pC]
        refine tU 4 (some 79) (.slice (some ⟨b, o, none⟩) xs.length s.c) rfl (fun w hw => by have hw' := hw.1; first | rfl | (go_simp; done) | (go_simp; rfl)) hHeld ?_
        simp only [Act.put, pA, pB, pC]
        refine tU 5 (some 80) ((.agg #[.string t, .string V1, .string V2, .slice adv (dirtyI F').length capv])) rfl (fun w hw => by obtain ⟨_, q0, q1, q2, q3⟩ := hw; first | rfl | (go_simp; done) | (go_simp; rfl)) hHeld ?_
        simp only [Act.put, pA, pB, pC]
        refine readyT 6 (by kernel_rfl) rfl (by rfl) (fun K hK => ?_)
        go_simp
        refine HPUT.out.mono ?_
        rintro e w9 ⟨v, rfl, ho, hb⟩
        try go_wp2_with fail
        have hb9 := HBD.out _ hb
        have HS5 : Hid (w9.cell? ⟨r, 1, none⟩ = some (.slice (some ⟨b, o, none⟩) xs.length s.c) ∧ w9.cell? ⟨gg, 0, none⟩ = some (.string t) ∧ w9.cell? ⟨gg, 1, none⟩ = some (.string V1) ∧ w9.cell? ⟨gg, 2, none⟩ = some (.string V2) ∧ w9.cell? ⟨gg, 3, none⟩ = some (.slice adv (dirtyI F').length capv)) := by
          have e1 := hb9.block r HLT8.out
          have e2 := hb9.block gg HGL.out
          exact ⟨(World.cell?_of_block e1).trans HS1.out.1, (World.cell?_of_block e2).trans HS1.out.2.1, (World.cell?_of_block e2).trans HS1.out.2.2.1, (World.cell?_of_block e2).trans HS1.out.2.2.2.1, (World.cell?_of_block e2).trans HS1.out.2.2.2.2⟩
        rw [← HF'.out] at ho
        have hfin := H9.out.relist HR.out (Below.refl _ _) ho hb9 HMEM.out _ (putR_abs _ _)
        obtain ⟨ad9, cap9, rfl, _, _, _⟩ := own_at ho
        have HFI := hide hfin
        have g1 : w9.frozen? ⟨r, 1, none⟩ = false := frozen_of_row w9 r 1 _ _ (by rw [hb9.block r HLT8.out]; exact HRC.out)
        refine hK.out _ _ (fun _ => HS5.out) (fun hH => ?_)
        have hHeld := hH (by decide)
        clear hK K hH ho hb hb9 hfin
        have g2 := HS5.out.1
        refine readyT 7 (by kernel_rfl) rfl (by rfl) (fun K hK => ?_)
        go_simp
        refine hK.out _ _ (fun _ => hHeld) (fun hH => ?_)
        clear hHeld
        have hHeld := hH (by decide)
        clear hK K hH
        refine readyT 8 (by kernel_rfl) rfl (by rfl) (fun K hK => ?_)
        go_simp
        refine hK.out _ _ (fun _ => hHeld) (fun hH => ?_)
        clear hHeld
        have hHeld := hH (by decide)
        clear hK K hH
        refine readyT 9 (by kernel_rfl) rfl (by rfl) (fun K hK => ?_)
        go_simp
        refine hK.out _ _ (fun hx => absurd rfl hx) (fun hH => ?_)
        refine ⟨by kernel_rfl, ?_⟩
        refine NoPanic.normal ?_
        clear hHeld hK K hH
        clear g1 g2
        go_wp2
        go_ret
        obtain ⟨s', S', q1, q2, q3⟩ := HFI.out
        refine ⟨rfl, s', _, S', q1, ?_, HST9.out.trans q3⟩
        rw [HAB.out, ← HFS.out] at q2
        have e1 : fput A.fs t.data.toList F' = fset A.fs t.data.toList F' := fput_fset HOK.out.sorted HG.out
        simp only [Int.toNat_natCast]
        rw [HFT.out, ← e1]
        exact q2
end
end Go.Proofs.YtlkimfmilccanaaGreat
