/-
  The document's disk: List, Dirty, Read.
-/
import Derived.Test.YtobfijpfdibccaaGreatRefCalls2
namespace Go.Proofs.YtobfijpfdibccaaGreat
open Go.RowKit Go.Maps Go.WideMaps
set_option linter.unusedVariables false
set_option linter.unusedSimpArgs false
theorem info3r : (Tryz.prog.info? 3).map (fun i => (i.zero, i.size, i.bytes)) = some (some (.int .i64 0), 1, 8) := by kernel_rfl
theorem info9r : (Tryz.prog.info? 9).map (fun i => (i.zero, i.size, i.bytes)) = some (some (.string ⟨#[]⟩), 1, 16) := by kernel_rfl
section
variable {w : World} {r : Nat} {s : RS} {xs : List RF} {S : Nat → Prop} {A : AD}
theorem names_abs (xs : List RF) : (fkeys (xs.map RF.abs)).map encStr = xs.map (fun x => Value.string x.name) := by
  unfold fkeys
  rw [List.map_map, List.map_map]
  rfl
set_option maxRecDepth 5000 in
set_option maxHeartbeats 1000000 in
theorem rList_any (h : RefAt w r s xs S) (hr : RRel s xs A) (hok : A.Ok) : Calls Tryz.prog 24 #[.pointer (some ⟨r, 0, none⟩)] w fun e w' => ∃ v, e = .returned v ∧ w'.ownsRow w.heap.size 9 1 v (A.list.map encStr).length (A.list.map encStr) ∧ Below w.heap.size w w' := by
  have hl : xs.length ≤ 16 := by have := hok.few; rw [hr.fs, List.length_map] at this; exact this
  have HC1 : Hid (∀ w', Below w.heap.size w w' → w'.cell? ⟨r, 1, none⟩ = some (.slice s.ad xs.length s.c)) := fun w' hb => by
    rw [← hr.n]
    exact (World.cell?_of_block (hb.block r (h.lt r h.self))).trans (h.c 1)
  have HC5 : Hid (∀ w', Below w.heap.size w w' → w'.cell? ⟨r, 5, none⟩ = some (.bool A.pow.off)) := fun w' hb => by
    rw [← hr.pow.off]
    exact (World.cell?_of_block (hb.block r (h.lt r h.self))).trans (h.c 5)
  have HF : Hid (∀ w', Below w.heap.size w w' → Files w' s.ad xs) := fun w' hb => h.files.below hb
  have HFS := hide hr.fs
  obtain ⟨ad, had⟩ : ∃ ad, s.ad = ad := ⟨_, rfl⟩
  obtain ⟨B, hB⟩ : ∃ B, w.heap.size = B := ⟨_, rfl⟩
  have HBE := hide hB
  rw [had] at HC1 HF
  rw [hB] at HC1 HC5 HF ⊢
  clear h hr hok had hB
  unfold AD.list
  cases hoff : A.pow.off with
  | true =>
    have c1 := HC1.out w (Below.refl _ _)
    have c5 := HC5.out w (Below.refl _ _)
    rw [hoff] at c5
    rw [if_pos rfl]
    clear hoff HC1 HC5 HF
    go_enter Tryz.func24, Tryz.ntmps24
    go_wp2
    go_loopw [3, 4] (fun v i wr => v = .slice none 0 0 ∧ i = .int .i64 0 ∧ wr = w) (fun _ i _ => 0)
    case atStart => exact ⟨rfl, rfl, rfl⟩
    case round =>
      obtain ⟨rfl, rfl, rfl⟩ := hrel
      by_cases h0 : 0 < xs.length
      · have d0 : decide ((0 : Int) < (xs.length : Int)) = true := decide_eq_true (by omega)
        go_wp2
        go_ret
        exact ⟨_, rfl, World.ownsRow_nil _ _ _ _, Below.refl _ _⟩
      · have d0 : decide ((0 : Int) < (xs.length : Int)) = false := decide_eq_false (by omega)
        go_wp2
        go_ret
        exact ⟨_, rfl, World.ownsRow_nil _ _ _ _, Below.refl _ _⟩
  | false =>
    rw [hoff] at HC5
    rw [if_neg (by simp), HFS.out, names_abs]
    clear hoff
    go_enter Tryz.func24, Tryz.ntmps24
    go_wp2
    go_loopw [3, 4] (fun v i wr => ∃ k : Nat, k ≤ xs.length ∧ i = .int .i64 (k : Int) ∧ wr.ownsRow B 9 1 v k ((xs.take k).map (fun x => Value.string x.name)) ∧ Below B w wr) (fun _ i _ => xs.length - (intOf i).toNat)
    case atStart => exact ⟨0, by omega, rfl, World.ownsRow_nil _ _ _ _, Below.refl _ _⟩
    case round =>
      obtain ⟨k, hk, rfl, hown, hbr⟩ := hrel
      have c1 := HC1.out wr hbr
      have c5 := HC5.out wr hbr
      by_cases hlt : k < xs.length
      · have dk : decide ((k : Int) < (xs.length : Int)) = true := decide_eq_true (by omega)
        have hk0 : (0 : Int) ≤ (k : Int) := by omega
        have hk1 : (k : Int) < (xs.length : Int) := by omega
        obtain ⟨b, o, rfl, hbl, hcs⟩ := (HF.out wr hbr).cells hlt
        have hsn := take_snoc xs k hlt
        obtain ⟨x, hx⟩ : ∃ x, xs[k] = x := ⟨_, rfl⟩
        rw [hx] at hcs hsn
        have f0 : wr.cell? ⟨b, o + k * 4, none⟩ = some (.string x.name) := hcs 0 (by omega)
        obtain ⟨g1, hg1⟩ : ∃ g, wr.heap.size = g := ⟨_, rfl⟩
        obtain ⟨w1, hw1⟩ : ∃ w1, wr.alloc (.cells #[.string x.name] 9) = w1 := ⟨_, rfl⟩
        obtain ⟨v2, w2, hap, hr2, hb3⟩ := app_one Tryz.underlying56 info9r rfl (by decide) hown (by rw [← HBE.out]; exact hbr.size) #[.string x.name] rfl (by intro u hu; simp at hu; subst hu; rfl) (by omega) (by unfold maxLen; omega) 56 hw1 hg1
        have HO : Hid (w2.ownsRow B 9 1 v2 (k + 1) ((xs.take (k + 1)).map (fun x => Value.string x.name))) := by rw [hsn, List.map_append]; exact hr2
        have HB := hide (hbr.trans hb3)
        clear hown hbr hcs hx hbl hr2 hb3 hsn
        go_wp2_with (at_builtin; refine wpList_app rfl _ _ _ rfl hap ?_; try go_frame)
        go_roundw
        case rel => exact ⟨k + 1, by omega, by go_num, HO.out, HB.out⟩
        case measure => simp [intOf]; omega
      · have hkl : k = xs.length := by omega
        subst hkl
        have dk : decide ((xs.length : Int) < (xs.length : Int)) = false := decide_eq_false (by omega)
        rw [List.take_length] at hown
        have HO := hide hown
        have HB := hide hbr
        clear hown hbr
        go_wp2
        go_ret
        exact ⟨_, rfl, by rw [List.length_map]; exact HO.out, HB.out⟩
theorem src_at {w : World} {ad : Option Addr} {cap : Nat} {ds : List Int} (h : RowAt w ad (ds.map (Value.int .i64))) : Src Tryz.prog 1 62 (.slice ad ds.length cap) (ds.map (Value.int .i64)).length (ds.map (Value.int .i64)) w := by
  rw [List.length_map]
  cases ad with
  | none =>
    have : ds = [] := by
      rcases h with h | ⟨b, o, ha, _⟩
      · exact List.map_eq_nil_iff.1 h
      · cases ha
    subst this
    exact Src.ofNil w Tryz.underlying62 cap
  | some a =>
    refine Src.ofSlice w Tryz.underlying62 a ds.length cap (ds.map (Value.int .i64)) (by simp) (fun j u hu => ?_) (fun u hu => by obtain ⟨k, _, rfl⟩ := List.mem_map.1 hu; rfl)
    rcases h with h | ⟨b, o, ha, hl, hc⟩
    · rw [h] at hu; simp at hu
    · cases ha
      have := (List.getElem?_eq_some_iff.1 hu).1
      rw [show (⟨b, o, none⟩ : Addr).add j = ⟨b, o + j, none⟩ by unfold Addr.add; split <;> simp_all, hc j this]
      exact hu
theorem own_from {w : World} {e n : Nat} {v : Value} {l : List Value} {B : Nat} (h : w.ownsRow 0 e 1 v n l) (hb : ∀ g, v.ownBlock = some g → B ≤ g) : w.ownsRow B e 1 v n l := by
  refine ⟨h.1, ?_⟩
  rcases h.2 with h | ⟨g, c, cur, rfl, _, rest⟩
  · exact .inl h
  · exact .inr ⟨g, c, cur, rfl, hb g rfl, rest⟩
set_option maxRecDepth 5000 in
theorem rDirty_any (h : RefAt w r s xs S) (hr : RRel s xs A) (hok : A.Ok) (t : ByteArray) : Calls Tryz.prog 35 #[.pointer (some ⟨r, 0, none⟩), .string t] w fun e w' => ∃ v, e = .returned v ∧ w'.ownsRow w.heap.size 3 1 v ((A.dirtyI t.data.toList).map (Value.int .i64)).length ((A.dirtyI t.data.toList).map (Value.int .i64)) ∧ Below w.heap.size w w' := by
  have c1 : w.cell? ⟨r, 1, none⟩ = some (.slice s.ad xs.length s.c) := by rw [← hr.n]; exact h.c 1
  have c5 : w.cell? ⟨r, 5, none⟩ = some (.bool A.pow.off) := by rw [← hr.pow.off]; exact h.c 5
  have hl : xs.length ≤ 16 := by have := hok.few; rw [hr.fs, List.length_map] at this; exact this
  have hfind := rFind_any h hr.n (by omega) t
  obtain ⟨ad, had⟩ : ∃ ad, s.ad = ad := ⟨_, rfl⟩
  have HF := hide h.files
  rw [had] at c1 HF
  have HFS := hide hr.fs
  have HDS := hide hr.ds
  have HOK := hide hok
  clear h hr had hok
  cases hg : fget A.fs t.data.toList with
  | none =>
    have HE : Hid (A.dirtyI t.data.toList = []) := by
      show _ = _
      unfold AD.dirtyI AD.dirty
      rw [hg]
      split <;> rfl
    rw [HE.out]
    rw [HFS.out] at hg
    rw [find_none hg] at hfind
    clear hg
    go_enter Tryz.func35, Tryz.ntmps35
    go_wp2_with fail
    refine hfind.mono ?_
    rintro e w1 ⟨rfl, rfl⟩
    clear hfind
    go_wp2
    go_ret
    exact ⟨_, rfl, World.ownsRow_nil _ _ _ _, Below.refl _ _⟩
  | some F =>
    cases hoff : A.pow.off with
    | true =>
      have HE : Hid (A.dirtyI t.data.toList = []) := by
        show _ = _
        unfold AD.dirtyI AD.dirty
        rw [hoff, if_pos rfl]
        rfl
      rw [HE.out]
      rw [HFS.out] at hg
      obtain ⟨i, hi, hfi, hab⟩ := find_some hg
      rw [hfi] at hfind
      rw [hoff] at c5
      have dk : decide ((i : Int) < 0) = false := decide_eq_false (by omega)
      have hk0 : (0 : Int) ≤ (i : Int) := by omega
      clear hg hoff hab hfi
      go_enter Tryz.func35, Tryz.ntmps35
      go_wp2_with fail
      refine hfind.mono ?_
      rintro e w1 ⟨rfl, rfl⟩
      clear hfind
      go_wp2
      go_ret
      exact ⟨_, rfl, World.ownsRow_nil _ _ _ _, Below.refl _ _⟩
    | false =>
      have HE : Hid (A.dirtyI t.data.toList = dirtyI F) := by
        show _ = _
        unfold AD.dirtyI AD.dirty
        rw [hoff, if_neg (by simp), hg]
        rfl
      have hFok := HOK.out.files _ (fget_mem hg)
      have hdl : (dirtyI F).length ≤ 16384 := by unfold dirtyI; rw [List.length_map]; exact AF.dirtyL_length hFok
      rw [HE.out]
      rw [HFS.out] at hg
      obtain ⟨i, hi, hfi, hab⟩ := find_some hg
      rw [hfi] at hfind
      rw [hoff] at c5
      obtain ⟨b, o, rfl, hbl, hcs⟩ := HF.out.cells hi
      obtain ⟨x, hx⟩ : ∃ x, xs[i] = x := ⟨_, rfl⟩
      have hxm : x ∈ xs := by rw [← hx]; exact List.getElem_mem hi
      have hxd := HDS.out x hxm
      rw [hx] at hcs hab
      rw [hab] at hxd
      have f3 : w.cell? ⟨b, o + i * 4 + 3, none⟩ = some (.slice x.ad x.ds.length x.cap) := hcs 3 (by omega)
      have hrow := HF.out.dirty x hxm
      have hxd' : x.ds = dirtyI F := hxd
      obtain ⟨v2, w2, hap, hr2, hm2⟩ := run_append_rows (t := 62) (e := 3) Tryz.underlying62 info3r rfl (by decide) w 62 62 (.slice none 0 0) [] (x.ds.map (Value.int .i64)) (World.ownsRow_nil _ _ _ _) (.slice x.ad x.ds.length x.cap) (src_at hrow) (by rw [List.length_map, hxd']; simp only [List.length_nil]; omega)
      have HO : Hid (w2.ownsRow w.heap.size 3 1 v2 ((dirtyI F).map (Value.int .i64)).length ((dirtyI F).map (Value.int .i64))) := by
        rw [← hxd']
        rw [List.nil_append] at hr2
        refine own_from hr2 (fun g hg => ?_)
        rcases hm2.own g hg with hh | hh
        · cases hh
        · exact hh
      have HB : Hid (Below w.heap.size w w2) := ⟨hm2.gr.os, hm2.gr.tape, hm2.gr.output, hm2.gr.size, fun b hb => hm2.gr.block b hb (by simp [Value.ownBlock])⟩
      have hk0 : (0 : Int) ≤ (i : Int) := by omega
      have hk1 : (i : Int) < (xs.length : Int) := by omega
      have dk : decide ((i : Int) < 0) = false := decide_eq_false (by omega)
      clear hg hoff hcs hab hx hfi hxd hxd' hrow hr2 hm2 hxm hFok hdl
      go_enter Tryz.func35, Tryz.ntmps35
      go_wp2_with fail
      refine hfind.mono ?_
      rintro e w1 ⟨rfl, rfl⟩
      clear hfind
      go_wp2_with (at_builtin; refine wpList_app rfl _ _ _ rfl hap ?_; try go_frame)
      go_ret
      exact ⟨_, rfl, HO.out, HB.out⟩
set_option maxRecDepth 5000 in
theorem rRead_any (h : RefAt w r s xs S) (hr : RRel s xs A) (hok : A.Ok) (t : ByteArray) (a n : Int) : Calls Tryz.prog 32 #[.pointer (some ⟨r, 0, none⟩), .string t, .int .i64 a, .int .i64 n] w fun e w' => e = .returned (.tuple #[.string ⟨(A.read t.data.toList a n).1.toArray⟩, .int .i64 (A.read t.data.toList a n).2]) ∧ w' = w := by
  have c1 : w.cell? ⟨r, 1, none⟩ = some (.slice s.ad xs.length s.c) := by rw [← hr.n]; exact h.c 1
  have c5 : w.cell? ⟨r, 5, none⟩ = some (.bool A.pow.off) := by rw [← hr.pow.off]; exact h.c 5
  have hl : xs.length ≤ 16 := by have := hok.few; rw [hr.fs, List.length_map] at this; exact this
  have hfind := rFind_any h hr.n (by omega) t
  obtain ⟨ad, had⟩ : ∃ ad, s.ad = ad := ⟨_, rfl⟩
  have HF := hide h.files
  rw [had] at c1 HF
  have HFS := hide hr.fs
  have HOK := hide hok
  clear h hr had hok
  cases hoff : A.pow.off with
  | true =>
    have HE := hide (read_off (k := t.data.toList) (a := a) (n := n) hoff)
    rw [hoff] at c5
    clear hfind hoff
    go_enter Tryz.func32, Tryz.ntmps32
    go_wp2
    go_ret2
    rw [HE.out]
    exact ⟨rfl, rfl⟩
  | false =>
    cases hg : fget A.fs t.data.toList with
    | none =>
      have HE := hide (read_none (a := a) (n := n) hoff hg)
      rw [hoff] at c5
      rw [HFS.out] at hg
      rw [find_none hg] at hfind
      clear hg hoff
      go_enter Tryz.func32, Tryz.ntmps32
      go_wp2_with fail
      refine hfind.mono ?_
      rintro e w1 ⟨rfl, rfl⟩
      clear hfind
      go_wp2
      go_ret2
      rw [HE.out]
      exact ⟨rfl, rfl⟩
    | some F =>
      have HBAD : Hid ((a < 0 ∨ n < 0) → A.read t.data.toList a n = ([], 1)) := fun hb => read_bad hoff hg hb
      have HGOOD : Hid (¬ (a < 0 ∨ n < 0) → A.read t.data.toList a n = ((F.seen.drop a.toNat).take n.toNat, 0)) := fun hb => by
        unfold AD.read
        rw [hoff, if_neg (by simp), hg]
        simp only
        rw [if_neg hb]
      have hFm : F.seen.length ≤ 1048576 := (HOK.out.files _ (fget_mem hg)).most
      rw [hoff] at c5
      rw [HFS.out] at hg
      obtain ⟨i, hi, hfi, hab⟩ := find_some hg
      rw [hfi] at hfind
      obtain ⟨b, o, rfl, hbl, hcs⟩ := HF.out.cells hi
      obtain ⟨x, hx⟩ : ∃ x, xs[i] = x := ⟨_, rfl⟩
      rw [hx] at hcs hab
      have f1 : w.cell? ⟨b, o + i * 4 + 1, none⟩ = some (.string x.seen) := hcs 1 (by omega)
      have hxs : x.seen.data.toList = F.seen := congrArg (fun p => AF.seen p.2) hab
      have HXS := hide hxs
      have hxz : x.seen.size = F.seen.length := by rw [← hxs, str_len]
      obtain ⟨z, hz⟩ : ∃ z, x.seen.size = z := ⟨_, rfl⟩
      have hzm : z ≤ 1048576 := by omega
      have HZ : Hid (F.seen.length = z) := by show _ = _; omega
      have hk0 : (0 : Int) ≤ (i : Int) := by omega
      have hk1 : (i : Int) < (xs.length : Int) := by omega
      have dk : decide ((i : Int) < 0) = false := decide_eq_false (by omega)
      clear hg hoff hcs hab hx hfi hxs hxz hFm
      by_cases h0 : a < 0
      · have d0 : decide (a < 0) = true := decide_eq_true h0
        have HE := hide (HBAD.out (.inl h0))
        clear h0
        go_enter Tryz.func32, Tryz.ntmps32
        go_wp2_with fail
        refine hfind.mono ?_
        rintro e w1 ⟨rfl, rfl⟩
        clear hfind
        go_wp2
        go_ret2
        rw [HE.out]
        exact ⟨rfl, rfl⟩
      · have d0 : decide (a < 0) = false := decide_eq_false h0
        by_cases h1 : n < 0
        · have d1 : decide (n < 0) = true := decide_eq_true h1
          have HE := hide (HBAD.out (.inr h1))
          clear h1
          go_enter Tryz.func32, Tryz.ntmps32
          go_wp2_with fail
          refine hfind.mono ?_
          rintro e w1 ⟨rfl, rfl⟩
          clear hfind
          go_wp2
          go_ret2
          rw [HE.out]
          exact ⟨rfl, rfl⟩
        · have d1 : decide (n < 0) = false := decide_eq_false h1
          have HE := hide (HGOOD.out (by omega))
          obtain ⟨an, rfl⟩ : ∃ an : Nat, a = (an : Int) := ⟨a.toNat, by omega⟩
          obtain ⟨nn, rfl⟩ : ∃ nn : Nat, n = (nn : Int) := ⟨n.toNat, by omega⟩
          clear h0 h1 HBAD HGOOD
          by_cases h2 : z ≤ an
          · have d2 : decide ((z : Int) ≤ (an : Int)) = true := decide_eq_true (by omega)
            have HD : Hid ((F.seen.drop an).take nn = []) := by show _ = _; rw [List.drop_eq_nil_of_le (by rw [HZ.out]; exact h2)]; simp
            go_enter Tryz.func32, Tryz.ntmps32
            go_wp2_with fail
            refine hfind.mono ?_
            rintro e w1 ⟨rfl, rfl⟩
            clear hfind
            go_wp2
            go_ret2
            rw [HE.out]
            simp only [Int.toNat_natCast]
            rw [HD.out]
            exact ⟨rfl, by first | rfl | trivial⟩
          · have d2 : decide ((z : Int) ≤ (an : Int)) = false := decide_eq_false (by omega)
            obtain ⟨k, hk⟩ : ∃ k, min nn (z - an) = k := ⟨_, rfl⟩
            have hkz : an + k ≤ z := by omega
            have hm1 : min (nn : Int) ((z : Int) - (an : Int)) = (k : Int) := by omega
            have HD : Hid (x.seen.extract an (an + k) = ⟨((F.seen.drop an).take nn).toArray⟩) := by
              refine bytes_ext ?_
              rw [ByteArray.data_extract]
              simp only [Array.toList_extract, List.extract]
              rw [HXS.out, Nat.add_sub_cancel_left, ← hk, ← HZ.out]
              exact (List.take_eq_take_iff.2 (by rw [List.length_drop]; omega)).symm
            have hz2 : ¬ an ≥ z := by omega
            clear hk
            go_enter Tryz.func32, Tryz.ntmps32
            go_wp2_with fail
            refine hfind.mono ?_
            rintro e w1 ⟨rfl, rfl⟩
            clear hfind
            go_wp2
            go_ret2
            rw [HE.out]
            simp only [Int.toNat_natCast]
            exact ⟨by rw [← HD.out]; rfl, by first | rfl | trivial⟩
end
end Go.Proofs.YtobfijpfdibccaaGreat
