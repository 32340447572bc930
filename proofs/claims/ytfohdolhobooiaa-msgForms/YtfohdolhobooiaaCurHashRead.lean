/-
  Hash of the reader.
-/
import Derived.Test.YtfohdolhobooiaaCurHashes
import Derived.Test.YtfohdolhobooiaaCurReadMath
namespace Go.Proofs.Ytfohdolhobooiaa.Cu
open Go.RowKit
/-- The hash that bytes are: zeros where there are none. -/
def hOf (b : ByteArray) : Nat → UInt8 := fun i => byteAt b.data.toList i
theorem copied (A : ByteArray) (hA : A.size ≤ 32) : ((tabv (fun _ => .int .u8 0) 32).toList.take 0 ++ A.data.toList.map byteV ++ (tabv (fun _ => .int .u8 0) 32).toList.drop (0 + (A.data.toList.map byteV).length)).toArray = tabv (bv (hOf A)) 32 := by
  refine tabv_ext _ _ _ (by simp [tabv]; omega) fun i hi => ?_
  rw [List.getElem?_toArray, List.take_zero, List.nil_append, Nat.zero_add, List.length_map, str_len]
  unfold bv hOf byteAt
  by_cases h : i < A.size
  · have hl : i < A.data.toList.length := by rw [str_len]; exact h
    rw [List.getElem?_append_left (by rw [List.length_map]; exact hl), List.getElem?_map, List.getElem?_eq_getElem hl, List.getD_eq_getElem?_getD, List.getElem?_eq_getElem hl]
    rfl
  · rw [List.getElem?_append_right (by rw [List.length_map, str_len]; omega), List.length_map, str_len, List.getElem?_drop, show A.size + (i - A.size) = i by omega, Array.getElem?_toList, tabv_get _ _ _ hi, List.getD_eq_getElem?_getD, List.getElem?_eq_none (by rw [str_len]; omega)]
    rfl
theorem wp_copy_text {o : Oper} {a : Act} {w : World} {K : Act → World → Prop} {Q : Exit → Act → World → Prop} (d s : Operand) (ho : o.op = .call { callee := .builtin .copy, args := #[d, s], argTypes := #[44, 9] }) (g dLen dCap : Nat) (r : ByteArray) (hd : a.eval d = .slice (some ⟨g, 0, none⟩) dLen dCap) (hs : a.eval s = .string r)
    (t : TypeId) (cur : Array Value) (hle : r.size ≤ dLen) (hg : w.heap[g]? = some (.cells cur t (0, 0))) (hfit : r.size ≤ cur.size) (cs : Array Value) (hcs : (cur.toList.take 0 ++ r.data.toList.map byteV ++ cur.toList.drop (0 + (r.data.toList.map byteV).length)).toArray = cs)
    (h : K (a.put o.dst (.int .i64 (r.size : Int))) (w.setRow g cs)) : o.wp Try.prog a w K Q := by
  have hr := run_copy_text w o.type g 0 dLen dCap r t cur hle hg (by omega)
  rw [hcs] at hr
  unfold Oper.wp execOp
  simp only [ho, resolve, invoke, builtin, Sem.run_bind, Sem.run_pure, Result.andThen_ok, List.map_toArray, List.map_cons, List.map_nil, hd, hs, hr]
  exact h
theorem Mr.low {p : Nat} {w w1 w2 : World} (h : Mr p w w1) (hb : Below w.heap.size w1 w2) : Mr p w w2 :=
  ⟨hb.os.trans (Mw.os h), hb.tape.trans (Mw.tape h), hb.output.trans (Mw.output h), Nat.le_trans (Mr.size h) hb.size, fun k hk hp _ => (hb.block k hk).trans (Mr.block h k hk hp), fun _ h => by simp [Value.ownBlock] at h⟩
attribute [local go_sem ↓] Go.wp_at_zero Go.wp_at_succ
set_option maxRecDepth 5000 in
set_option maxHeartbeats 2000000 in
theorem rHash (p : Nat) (st : RS) (w : World) (h : CR w p st) : Calls Try.prog 44 #[.pointer (some ⟨p, 0, none⟩)] w fun e w' => e = .returned (.agg (tabv (bv (hOf (takeA 32 st))) 32)) ∧ CR w' p (takeS 32 st) ∧ Mr p w w' := by
  obtain ⟨A, hA⟩ : ∃ A, takeA 32 st = A := ⟨_, rfl⟩
  have hAs : A.size ≤ 32 := by rw [← hA]; exact takeA_le 32 st
  have hplt := h.lt
  go_enter Try.func44, Try.ntmps44
  go_wp2
  generalize hW : World.alloc (World.alloc w _) _ = w2
  have kb : Below w.heap.size w w2 := by rw [← hW]; exact ((Below.refl _ _).alloc (Nat.le_refl _) _).alloc (by simp) _
  have k0 : Has w2 w.heap.size 23 (fun _ => .int .u8 0) 32 := by rw [← hW]; exact (Has.new w 23 (fun _ => .int .u8 0) 32 _ rfl).old _
  have k1 : Has w2 (w.heap.size + 1) 23 (fun _ => .int .u8 0) 32 := by
    rw [← hW]
    have := Has.new (w.alloc (.cells (tabv (fun _ => .int .u8 0) 32) 23)) 23 (fun _ => .int .u8 0) 32 _ rfl
    simp only [World.size_alloc] at this
    exact this
  have h2 := h.below kb
  have hsz : w2.heap.size = w.heap.size + 2 := by rw [← hW]; simp
  have HS := hide hsz
  clear hW hsz
  refine wp_region_noPanic ?_
  refine wp_region_held_drew (S := fun _ => True) (by kernel_rfl) trivial (fun hHeld => ?_)
  refine takeH 0 (some 4) (.slice (some ⟨w.heap.size + 1, 0, none⟩) 32 32) rfl rfl (by kernel_rfl) (by kernel_rfl) (by kernel_rfl) (fun _ _ _ h => h) (by rfl) (fun w hw => by first | rfl | (go_simp; done) | (go_simp; rfl)) hHeld ?_
  simp only [Act.put, List.setIfInBounds_toArray, List.set_cons_zero, List.set_cons_succ]
  refine takeH 1 (some 5) (.pointer (some ⟨p, 0, none⟩)) rfl rfl (by kernel_rfl) (by kernel_rfl) (by kernel_rfl) (fun _ _ _ h => h) (by rfl) (fun w hw => by first | rfl | (go_simp; done) | (go_simp; rfl)) hHeld ?_
  simp only [Act.put, List.setIfInBounds_toArray, List.set_cons_zero, List.set_cons_succ]
  refine wpAnyH_ready (rs := [2]) (by kernel_rfl) (by simp) (AllReadyH.cons rfl (fun K hK => ?_) AllReadyH.nil)
  rw [if_pos (by rfl)]
  go_simp
  refine (rTake 32 p st w2.drew (h2 : CR w2.drew p st) (.inr (by decide))).mono ?_
  rintro e w3 ⟨rfl, h3, hM3⟩
  rw [hA]
  have j0 : Has w3 w.heap.size 23 (fun _ => .int .u8 0) 32 := by
    have := hM3.block w.heap.size (by show _ < w2.heap.size; have := HS.out; omega) (by omega)
    unfold Has; rw [this]; exact k0
  have j1 : Has w3 (w.heap.size + 1) 23 (fun _ => .int .u8 0) 32 := by
    have := hM3.block (w.heap.size + 1) (by show _ < w2.heap.size; have := HS.out; omega) (by omega)
    unfold Has; rw [this]; exact k1
  try go_wp2_with fail
  refine hK.out _ _ trivial (fun hHeld => ?_)
  clear hK K k0 k1
  refine wpAnyH_ready (rs := [3]) (by kernel_rfl) (by simp) (AllReadyH.cons rfl (fun K hK => ?_) AllReadyH.nil)
  rw [if_pos (by rfl)]
  refine wp_copy_text _ _ rfl (w.heap.size + 1) 32 32 A (by rfl) (by rfl) 23 _ hAs j1 (by rw [tabv_size]; exact hAs) _ (copied A hAs) ?_
  refine hK.out _ _ trivial (fun hHeld => ?_)
  clear hK K
  have i1 : Has (w3.setRow (w.heap.size + 1) (tabv (bv (hOf A)) 32)) (w.heap.size + 1) 23 (bv (hOf A)) 32 := j1.row _ _ rfl
  have i0 := j0.row_other (w.heap.size + 1) (tabv (bv (hOf A)) 32) (by omega)
  have b4 : Below w.heap.size w3 (w3.setRow (w.heap.size + 1) (tabv (bv (hOf A)) 32)) := below_setRow (Below.refl _ _) (by omega) _
  generalize hW4 : w3.setRow (w.heap.size + 1) (tabv (bv (hOf A)) 32) = w4 at i0 i1 b4 ⊢
  refine ⟨by kernel_rfl, ?_⟩
  refine NoPanic.normal ?_
  have I0 := hide i0
  have I1 := hide i1
  clear i0 i1
  go_wp2_with (first | (refine wpList_load_part rfl 23 _ rfl (w.heap.size + 1) 0 rfl 23 _ 32 32 _ I1.out (by omega) Try.underlying23 rfl info54 (bv (hOf A)) (fun i _ => by rw [Nat.zero_add]) ?_) | (refine wpList_store_part rfl 23 _ _ rfl rfl w.heap.size 0 (bv (hOf A)) 32 rfl rfl 23 _ 32 I0.out (by omega) info54 (fun _ _ => rfl) (bv (hOf A)) (fun i hi => by unfold splice; rw [if_pos (by omega), Nat.sub_zero]) ?_))
  refine bodyPost_ret (results_cell_row rfl _ _ w.heap.size 23 _ (0, 0) _ rfl (I0.out.row _ _ rfl) Try.underlying23 rfl (by rw [tabv_size]; exact info54)) rfl ⟨by rw [hA], ?_, ?_⟩
  · exact h3.same (((below_setRow b4 (Nat.le_refl _) _).block p hplt))
  · exact Mr.low (Mr.trans (Mr.trans (Mr.of kb) (Mr.of (Below.refl w2.heap.size w2).drew)) hM3) (below_setRow b4 (Nat.le_refl _) _)
end Go.Proofs.Ytfohdolhobooiaa.Cu
