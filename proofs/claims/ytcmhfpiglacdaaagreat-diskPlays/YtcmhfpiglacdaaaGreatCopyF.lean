/-
  Copy.
-/
import Derived.Test.YtcmhfpiglacdaaaGreatLists
import Derived.Lib.SliceRun
namespace Go.Proofs.YtcmhfpiglacdaaaGreat
open Go.RowKit Go.Maps Go.WideMaps Go.Sort Go.Shelf
set_option linter.unusedSimpArgs false
set_option maxRecDepth 5000 in
set_option maxHeartbeats 400000 in
theorem cloneB_any (w : World) (v : Value) (l : List UInt8) (h : Bytes w 0 v l) (hl : l.length ≤ 140737488355328) :
    Calls Tryz.prog 68 #[v] w fun e w' => ∃ v', e = .returned v' ∧ Bytes w' 0 v' l ∧ (∀ b, v'.ownBlock = some b → w.heap.size ≤ b) ∧ Below w.heap.size w w' := by
  have hq : ∀ (w : World) (a : Option Addr) (n c n' c' : Nat), (binOp .eql 77 (.slice a n c) (.slice none n' c')).run Tryz.prog w = .ok (.bool a.isNone) w := fun w a n c n' c' => Lib.run_eql_slice_nil w _ _ a n c n' c' Tryz.underlying77
  rcases h.2 with ⟨rfl, hn⟩ | ⟨g, cap, cur, rfl, hb0, hgg, hnc, hcm, hcs, ht⟩
  · have e0 : l = [] := List.length_eq_zero_iff.1 hn
    subst e0
    clear h
    go_enter Tryz.func68, Tryz.ntmps68
    go_wp2
    go_ret
    exact ⟨.slice none 0 0, rfl, Bytes.nil _ _, by simp [Value.ownBlock], Below.refl _ _⟩
  · have hB1 : Bytes (w.alloc (.cells #[] 5)) 0 (.slice (some ⟨w.heap.size, 0, none⟩) 0 0) [] := World.ownsRow_made w #[] 0 (Nat.zero_le _) (Nat.zero_le _) rfl
    have hw1 : Bytes (w.alloc (.cells #[] 5)) 0 (.slice (some ⟨g, 0, none⟩) l.length cap) l := h.same (fun k hk => Below.heap_alloc w _ k (h.lt k hk))
    have hsrc := src_piece hw1 (Piece.whole hw1) (by omega)
    have e9 : (l.drop 0).take l.length = l := by rw [List.drop_zero, List.take_length]
    rw [e9] at hsrc
    have HB := hide hB1
    have HS := hide hsrc
    have hgl := lt_of_some hgg
    clear hB1 hw1 hsrc e9 h
    go_enter Tryz.func68, Tryz.ntmps68
    go_wp2_with (first | (at_builtin; refine wpList_append_src rfl _ _ 77 rfl 0 (.slice (some ⟨w.heap.size, 0, none⟩) 0 0) [] (by rfl) HB.out (.slice (some ⟨g, 0, none⟩) l.length cap) l (by rfl) HS.out (by simpa using hl) (Nat.zero_le _) ?_; intro ad2 n2 c2 w2 hB2 hM2) | go_in)
    go_ret
    refine ⟨.slice ad2 n2 c2, rfl, by simpa using hB2, fun b hb => ?_, ?_⟩
    · rcases hM2.own b hb with x | x
      · have : b = w.heap.size := by simpa [Value.ownBlock] using x.symm
        omega
      · simp at x; omega
    · exact ((Below.refl _ _).alloc (Nat.le_refl _) _).grown hM2.gr (by simp) (fun j hj => by simp [Value.ownBlock] at hj; omega)
theorem cloneM_any (w : World) (b : Nat) (D : DataW Unit) (h : w.ownsMap Tryz.prog 3 (unitElem (H := Unit)) b 16384 D) :
    Calls Tryz.prog 73 #[.map (some b)] w fun e w' => e = .returned (.map (some w.heap.size)) ∧ w'.ownsMap Tryz.prog 3 (unitElem (H := Unit)) w.heap.size 16384 D ∧ Below w.heap.size w w' :=
  (AnyW.maps_Clone_owns Tryz.cloneM 3 unitElem b 16384 D w h).mono (fun _ _ ⟨h1, h2, _, h4⟩ => ⟨h1, h2, h4⟩)
/-- What the call has made so far stands in later worlds. -/
theorem Bytes.later {w w' : World} {v : Value} {l : List UInt8} (h : Bytes w 0 v l) (b : Below w.heap.size w w') : Bytes w' 0 v l := h.same (fun k hk => b.block k (h.lt k hk))
theorem FileAt.later {w w' : World} {c : FC} {F : AF} (h : FileAt w c F) (b : Below w.heap.size w w') : FileAt w' c F := h.same (fun k hk => b.block k (h.lt k hk))
theorem own_later {w w' : World} {b n : Nat} {D : DataW Unit} (h : w.ownsMap Tryz.prog 3 (unitElem (H := Unit)) b n D) (k : Below w.heap.size w w') : w'.ownsMap Tryz.prog 3 (unitElem (H := Unit)) b n D := ownsMap_same h (k.block b h.lt)
/-- The copy's struct. -/
theorem copy_file {w w4 : World} {F : AF} {v1 v2 : Value} {m3 : Nat} (hok : F.Ok) (h1 : Bytes w4 0 v1 F.seen) (o1 : ∀ b, v1.ownBlock = some b → w.heap.size ≤ b) (h2 : Bytes w4 0 v2 F.safe) (o2 : ∀ b, v2.ownBlock = some b → w.heap.size ≤ b) (h3 : w4.ownsMap Tryz.prog 3 (unitElem (H := Unit)) m3 16384 (dirtyD F)) (o3 : w.heap.size ≤ m3) (hne : ∀ b, v1.ownBlock = some b → v2.ownBlock ≠ some b) (hs : w.heap.size ≤ w4.heap.size) :
    ∃ c', c'.g = w4.heap.size ∧ FileAt (w4.alloc (.cells #[v1, v2, .map (some m3)] 83)) c' F ∧ ∀ b, c'.has b → w.heap.size ≤ b := by
  have e : ∀ b, b < w4.heap.size → (w4.alloc (.cells #[v1, v2, .map (some m3)] 83)).heap[b]? = w4.heap[b]? := fun b hb => Below.heap_alloc w4 _ b hb
  refine ⟨⟨w4.heap.size, m3, v1, v2⟩, rfl, ⟨hok, heap_alloc_new w4 _, h1.same (fun k hk => e k (h1.lt k hk)), h2.same (fun k hk => e k (h2.lt k hk)), ownsMap_same h3 (e m3 h3.lt), fun x => ?_, fun x => ?_, hne⟩, fun b hb => ?_⟩
  · have := h1.lt _ x; simp at this
  · have := h2.lt _ x; simp at this
  · rcases hb with rfl | rfl | hb | hb
    · exact hs
    · exact o3
    · exact o1 b hb
    · exact o2 b hb
set_option maxRecDepth 5000 in
set_option maxHeartbeats 4000000 in
theorem fcopy_any (w : World) (c : FC) (F : AF) (h : FileAt w c F) :
    Calls Tryz.prog 52 #[.pointer (some ⟨c.g, 0, none⟩)] w fun e w' => ∃ c', e = .returned (.pointer (some ⟨c'.g, 0, none⟩)) ∧ FileAt w' c' F ∧ (∀ b, c'.has b → w.heap.size ≤ b) ∧ Below w.heap.size w w' := by
  have HH := hide h
  have hok := h.ok
  have hmo := hok.most
  have hle := hok.le
  obtain ⟨ad, cp, hv⟩ := h.seen.shape
  obtain ⟨ad1, cp1, hv1⟩ := h.safe.shape
  have HV := hide hv
  have HV1 := hide hv1
  have H0 : Hid (FileAt w.drew c F ∧ Below w.heap.size w w.drew) := ⟨h.drew, (Below.refl _ _).drew⟩
  clear h hv hv1
  go_enter Tryz.func52, Tryz.ntmps52
  go_wp2
  refine wp_region_noPanic ?_
  refine wp_region_held_drew (S := fun wx => FileAt wx c F ∧ Below w.heap.size w wx) (by kernel_rfl) H0.out (fun hHeld => ?_)
  refine takeH 0 (some 3) (.pointer (some ⟨c.g, 0, none⟩)) rfl rfl (by kernel_rfl) (by kernel_rfl) (by kernel_rfl) (fun _ _ _ h => h) (by rfl) (fun w hw => by first | rfl | (go_simp; done) | (go_simp; rfl)) hHeld ?_
  simp only [Act.put, List.setIfInBounds_toArray, List.set_cons_zero, List.set_cons_succ]
  refine takeH 1 (some 4) (.pointer (some ⟨c.g, 0, none⟩)) rfl rfl (by kernel_rfl) (by kernel_rfl) (by kernel_rfl) (fun _ _ _ h => h) (by rfl) (fun w hw => by first | rfl | (go_simp; done) | (go_simp; rfl)) hHeld ?_
  simp only [Act.put, List.setIfInBounds_toArray, List.set_cons_zero, List.set_cons_succ]
  refine takeH 2 (some 5) (.pointer (some ⟨c.g, 0, none⟩)) rfl rfl (by kernel_rfl) (by kernel_rfl) (by kernel_rfl) (fun _ _ _ h => h) (by rfl) (fun w hw => by first | rfl | (go_simp; done) | (go_simp; rfl)) hHeld ?_
  simp only [Act.put, List.setIfInBounds_toArray, List.set_cons_zero, List.set_cons_succ]
  refine takeH 3 (some 6) (.slice ad F.seen.length cp) rfl rfl (by kernel_rfl) (by kernel_rfl) (by kernel_rfl) (fun _ _ _ h => h) (by rfl) (fun w hw => by have hw' := FileAt.c0 hw.1; rw [HV.out] at hw'; first | (go_simp; done) | (go_simp; rfl)) hHeld ?_
  simp only [Act.put, List.setIfInBounds_toArray, List.set_cons_zero, List.set_cons_succ]
  refine takeH 5 (some 8) (.pointer (some ⟨c.g, 0, none⟩)) rfl rfl (by kernel_rfl) (by kernel_rfl) (by kernel_rfl) (fun _ _ _ h => h) (by rfl) (fun w hw => by first | rfl | (go_simp; done) | (go_simp; rfl)) hHeld ?_
  simp only [Act.put, List.setIfInBounds_toArray, List.set_cons_zero, List.set_cons_succ]
  refine takeH 6 (some 9) (.pointer (some ⟨c.g, 0, none⟩)) rfl rfl (by kernel_rfl) (by kernel_rfl) (by kernel_rfl) (fun _ _ _ h => h) (by rfl) (fun w hw => by first | rfl | (go_simp; done) | (go_simp; rfl)) hHeld ?_
  simp only [Act.put, List.setIfInBounds_toArray, List.set_cons_zero, List.set_cons_succ]
  refine takeH 7 (some 10) (.pointer (some ⟨c.g, 1, none⟩)) rfl rfl (by kernel_rfl) (by kernel_rfl) (by kernel_rfl) (fun _ _ _ h => h) (by rfl) (fun w hw => by first | rfl | (go_simp; done) | (go_simp; rfl)) hHeld ?_
  simp only [Act.put, List.setIfInBounds_toArray, List.set_cons_zero, List.set_cons_succ]
  refine takeH 8 (some 11) (.slice ad1 F.safe.length cp1) rfl rfl (by kernel_rfl) (by kernel_rfl) (by kernel_rfl) (fun _ _ _ h => h) (by rfl) (fun w hw => by have hw' := FileAt.c1 hw.1; rw [HV1.out] at hw'; first | (go_simp; done) | (go_simp; rfl)) hHeld ?_
  simp only [Act.put, List.setIfInBounds_toArray, List.set_cons_zero, List.set_cons_succ]
  refine takeH 10 (some 13) (.pointer (some ⟨c.g, 0, none⟩)) rfl rfl (by kernel_rfl) (by kernel_rfl) (by kernel_rfl) (fun _ _ _ h => h) (by rfl) (fun w hw => by first | rfl | (go_simp; done) | (go_simp; rfl)) hHeld ?_
  simp only [Act.put, List.setIfInBounds_toArray, List.set_cons_zero, List.set_cons_succ]
  refine takeH 11 (some 14) (.pointer (some ⟨c.g, 0, none⟩)) rfl rfl (by kernel_rfl) (by kernel_rfl) (by kernel_rfl) (fun _ _ _ h => h) (by rfl) (fun w hw => by first | rfl | (go_simp; done) | (go_simp; rfl)) hHeld ?_
  simp only [Act.put, List.setIfInBounds_toArray, List.set_cons_zero, List.set_cons_succ]
  refine takeH 12 (some 15) (.pointer (some ⟨c.g, 2, none⟩)) rfl rfl (by kernel_rfl) (by kernel_rfl) (by kernel_rfl) (fun _ _ _ h => h) (by rfl) (fun w hw => by first | rfl | (go_simp; done) | (go_simp; rfl)) hHeld ?_
  simp only [Act.put, List.setIfInBounds_toArray, List.set_cons_zero, List.set_cons_succ]
  refine takeH 13 (some 16) (.map (some c.dm)) rfl rfl (by kernel_rfl) (by kernel_rfl) (by kernel_rfl) (fun _ _ _ h => h) (by rfl) (fun w hw => by have hw' := FileAt.c2 hw.1; first | (go_simp; done) | (go_simp; rfl)) hHeld ?_
  simp only [Act.put, List.setIfInBounds_toArray, List.set_cons_zero, List.set_cons_succ]
  refine wpAnyH_ready (rs := [4]) (by kernel_rfl) (by simp) (AllReadyH.cons rfl (fun K hK => ?_) AllReadyH.nil)
  rw [if_pos (by rfl)]
  go_simp
  have hcl := cloneB_any w.drew _ _ hHeld.1.seen (by omega)
  rw [HV.out] at hcl
  refine hcl.mono ?_
  clear hcl
  rintro e x1 ⟨v1, rfl, hB1, ho1, hb⟩
  obtain ⟨ax1, cx1, hx1⟩ := hB1.shape
  obtain ⟨nx1, hnx1⟩ : ∃ n, F.seen.length = n := ⟨_, rfl⟩
  rw [hnx1] at hx1
  clear hnx1
  subst hx1
  try go_wp2_with fail
  have ho1' : ∀ b, (Value.slice ax1 nx1 cx1).ownBlock = some b → w.heap.size ≤ b := fun b hb' => Nat.le_trans hHeld.2.size (ho1 b hb')
  have hl1 : ∀ b, (Value.slice ax1 nx1 cx1).ownBlock = some b → b < x1.heap.size := fun b h1 => hB1.lt b h1
  refine hK.out _ _ ⟨hHeld.1.later hb, hHeld.2.trans (hb.mono hHeld.2.size)⟩ (fun hH => ?_)
  clear hK K hHeld hb
  have hHeld := hH
  clear hH
  refine wpAnyH_ready (rs := [9]) (by kernel_rfl) (by simp) (AllReadyH.cons rfl (fun K hK => ?_) AllReadyH.nil)
  rw [if_pos (by rfl)]
  go_simp
  have hcl := cloneB_any x1 _ _ hHeld.1.safe (by omega)
  rw [HV1.out] at hcl
  refine hcl.mono ?_
  clear hcl
  rintro e x2 ⟨v2, rfl, hB2, ho2, hb⟩
  obtain ⟨ax2, cx2, hx2⟩ := hB2.shape
  obtain ⟨nx2, hnx2⟩ : ∃ n, F.safe.length = n := ⟨_, rfl⟩
  rw [hnx2] at hx2
  clear hnx2
  subst hx2
  try go_wp2_with fail
  replace hB1 := hB1.later hb
  have ho2' : ∀ b, (Value.slice ax2 nx2 cx2).ownBlock = some b → w.heap.size ≤ b := fun b hb' => Nat.le_trans hHeld.2.size (ho2 b hb')
  have hne : ∀ b, (Value.slice ax1 nx1 cx1).ownBlock = some b → (Value.slice ax2 nx2 cx2).ownBlock ≠ some b := fun b h1 h2 => by have := ho2 b h2; have := hl1 b h1; omega
  refine hK.out _ _ ⟨hHeld.1.later hb, hHeld.2.trans (hb.mono hHeld.2.size)⟩ (fun hH => ?_)
  clear hK K hHeld hb
  have hHeld := hH
  clear hH
  refine wpAnyH_ready (rs := [14]) (by kernel_rfl) (by simp) (AllReadyH.cons rfl (fun K hK => ?_) AllReadyH.nil)
  rw [if_pos (by rfl)]
  go_simp
  refine (cloneM_any x2 c.dm (dirtyD F) hHeld.1.dirty).mono ?_
  rintro e x3 ⟨rfl, hD, hb⟩
  try go_wp2_with fail
  replace hB1 := hB1.later hb
  replace hB2 := hB2.later hb
  have hoD : w.heap.size ≤ x2.heap.size := hHeld.2.size
  refine hK.out _ _ ⟨hHeld.1.later hb, hHeld.2.trans (hb.mono hHeld.2.size)⟩ (fun hH => ?_)
  clear hK K hHeld hb
  have hHeld := hH
  clear hH
  obtain ⟨c', hc'g, hf', hc'⟩ := copy_file hok hB1 ho1' hB2 ho2' hD hoD hne hHeld.2.size
  have hb' := hHeld.2.alloc hHeld.2.size (.cells #[.slice ax1 nx1 cx1, .slice ax2 nx2 cx2, .map (some x2.heap.size)] 83)
  have HF' := hide hf'
  have HC' := hide hc'
  have HB' := hide hb'
  have HG' := hide hc'g
  clear hf' hc' hb' hB1 hB2 hD hc'g
  refine takeH 15 (some 18) (.agg #[.slice ax1 nx1 cx1, .slice ax2 nx2 cx2, .map (some x2.heap.size)]) rfl rfl (by kernel_rfl) (by kernel_rfl) (by kernel_rfl) (fun _ _ _ h => h) (by rfl) (fun w hw => by first | rfl | (go_simp; done) | (go_simp; rfl)) hHeld ?_
  simp only [Act.put, List.setIfInBounds_toArray, List.set_cons_zero, List.set_cons_succ]
  refine wpAnyH_ready (rs := [16]) (by kernel_rfl) (by simp) (AllReadyH.cons rfl (fun K hK => ?_) AllReadyH.nil)
  rw [if_pos (by rfl)]
  go_simp
  refine hK.out _ _ ⟨hHeld.1.later ((Below.refl _ _).alloc (Nat.le_refl _) _), HB'.out⟩ (fun hH => ?_)
  clear hK K hHeld
  have hHeld := hH
  clear hH
  refine takeH 17 (some 2) (.pointer (some ⟨x3.heap.size, 0, none⟩)) rfl rfl (by kernel_rfl) (by kernel_rfl) (by kernel_rfl) (fun _ _ _ h => h) (by rfl) (fun w hw => by first | rfl | (go_simp; done) | (go_simp; rfl)) hHeld ?_
  simp only [Act.put, List.setIfInBounds_toArray, List.set_cons_zero, List.set_cons_succ]
  refine ⟨by kernel_rfl, ?_⟩
  refine NoPanic.normal ?_
  clear hHeld
  go_wp2
  go_ret
  exact ⟨c', by rw [HG'.out]; rfl, HF'.out, HC'.out, HB'.out⟩
end Go.Proofs.YtcmhfpiglacdaaaGreat
