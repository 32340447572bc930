/-
  head: the document's examples.
-/
import Derived.Test.YtmcnempkddahcaaReader2
namespace Go.Proofs.Ytmcnempkddahcaa
open Go.RowKit
set_option maxRecDepth 5000 in
set_option maxHeartbeats 2000000 in
theorem head_any (w : World) : Calls Try.prog 9 #[] w fun e w' => e = .returned (.bool true) ∧ Below w.heap.size w w' := by
  go_enter Try.func9, Try.ntmps9
  go_wp2_with fail
  refine (wNew _).mono ?_
  rintro e w1 ⟨rfl, hW1, hb1, hz1⟩
  go_wp2_with fail
  refine (rOpen _ _).mono ?_
  rintro e w2 ⟨rfl, hR2, hb2, hz2⟩
  have hW2 := hW1.below hb2
  have kb := hb1.trans (hb2.mono hb1.size)
  rw [hz1] at hR2 ⊢
  have hs2 : w.heap.size + 2 = w2.heap.size := by omega
  have HS2 := hide hs2
  clear hW1 hb1 hb2 hz1 hz2 hs2
  go_wp2_with fail
  refine (wU8 1 1 (by decide) rfl w.heap.size _ _ _ hW2 (fun l e => by cases e; decide)).mono ?_
  rintro e w3 ⟨rfl, v3, hW3, hM3⟩
  go_wp2_with fail
  refine (wU16 258 258 rfl w.heap.size _ _ _ hW3 (fun l e => by cases e; decide)).mono ?_
  rintro e w4 ⟨rfl, v4, hW4, hM4⟩
  go_wp2_with fail
  refine (wText _ w.heap.size _ _ _ hW4 (by decide) (fun l e => by cases e; decide)).mono ?_
  rintro e w5 ⟨rfl, v5, hW5, hM5⟩
  have hM := (hM3.trans hM4).trans hM5
  have hR5 := hR2.same (hM.block (w.heap.size + 1) (by have := HS2.out; omega) (by omega) (by simp [Value.ownBlock]))
  have kb5 := kb.trans (hM.below (B := w.heap.size) (Nat.le_refl _) (by have := HS2.out; omega) (by simp [Value.ownBlock]))
  clear hM3 hM4 hM5 hM hW3 hW4 hR2 kb hW2
  go_wp2_with fail
  refine (wOut w.heap.size _ _ _ hW5).mono ?_
  rintro e w6 ⟨rfl, hb6⟩
  have hW6 := hW5.below hb6
  have hR6 := hR5.below hb6
  have kb6 := kb5.trans (hb6.mono kb5.size)
  clear hW5 hR5 kb5 hb6
  have e1 : outS (txt (Option.map (fun x => x ++ nb 258 2) (Option.map (fun x => x ++ nb 1 1) (some []))) { data := #[97, 98] }) = { data := #[1, 1, 2, 0, 2, 97, 98] } := by kernel_rfl
  have e2 : outE (txt (Option.map (fun x => x ++ nb 258 2) (Option.map (fun x => x ++ nb 1 1) (some []))) { data := #[97, 98] }) = 0 := by kernel_rfl
  rw [e1, e2]
  go_wp2_with fail
  refine (wLen w.heap.size _ _ _ hW6).mono ?_
  rintro e w7 ⟨rfl, rfl⟩
  have e3 : ((txt (Option.map (fun x => x ++ nb 258 2) (Option.map (fun x => x ++ nb 1 1) (some []))) { data := #[97, 98] }).getD []).length = 7 := by kernel_rfl
  rw [e3]
  clear e1 e2 e3 hW6
  go_wp2_with fail
  refine (rText 2 _ _ _ hR6 (by decide)).mono ?_
  rintro e w8 ⟨rfl, h8, hM8⟩
  have e4 : textA 2 ({ data := #[0, 2, 97, 98, 7] }, 0) = { data := #[97, 98] } := by kernel_rfl
  have e5 : textS 2 ({ data := #[0, 2, 97, 98, 7] }, 0) = ({ data := #[7] }, 0) := by kernel_rfl
  rw [e5] at h8
  rw [e4]
  clear e4 e5
  go_wp2_with fail
  refine (rRest _ _ _ h8 (by decide)).mono ?_
  rintro e w9 ⟨rfl, hb9⟩
  have h9 := h8.below hb9
  go_wp2_with fail
  refine (rDone _ _ _ h9).mono ?_
  rintro e w10 ⟨rfl, rfl⟩
  have e6 : doneS ({ data := #[7] }, 0) = 4 := by kernel_rfl
  rw [e6]
  go_wp2_with fail
  refine (rU16 _ _ _ h9).mono ?_
  rintro e w11 ⟨rfl, h11, hM11⟩
  have e7 : (be (takeA 2 ({ data := #[7] }, 0)).data.toList) = 0 := by kernel_rfl
  have e8 : takeS 2 ({ data := #[7] }, 0) = ({ data := #[] }, 2) := by kernel_rfl
  rw [e8] at h11
  rw [e7]
  clear e6 e7 e8
  go_wp2_with fail
  refine (rErr _ _ _ h11).mono ?_
  rintro e w12 ⟨rfl, rfl⟩
  go_wp2_with fail
  refine (rRest _ _ _ h11 (by decide)).mono ?_
  rintro e w13 ⟨rfl, hb13⟩
  go_wp2
  go_ret
  refine ⟨rfl, ?_⟩
  have k8 := kb6.trans (hM8.below (B := w.heap.size) (by omega) (by have := kb6.size; omega))
  have k9 := k8.trans (hb9.mono k8.size)
  have k11 := k9.trans (hM11.below (B := w.heap.size) (by omega) (by have := k9.size; omega))
  exact k11.trans (hb13.mono k11.size)
end Go.Proofs.Ytmcnempkddahcaa
