import Derived.Test.YtlohfoggcdaeiaaGreatCurTab
import Derived.Deep.DrawnRows
/-
  Hash of the writer and of the reader.
-/
namespace Go.Proofs.YtlohfoggcdaeiaaGreat.Cu
set_option maxRecDepth 20000
open Go.RowKit
def hl (h : Nat → UInt8) : List UInt8 := (List.range 32).map h
theorem hl_length (h : Nat → UInt8) : (hl h).length = 32 := by simp [hl]
theorem hl_bv (h : Nat → UInt8) : (hl h).map byteV = (tabv (bv h) 32).toList := by
  unfold hl tabv; rw [List.map_map]; rfl
theorem wp_append_src {o : Oper} {a : Act} {w : World} {K : Act → World → Prop} {Q : Exit → Act → World → Prop} (sl x : Operand) (tx : TypeId)
    (ho : o.op = .call { callee := .builtin .append, args := #[sl, x], argTypes := #[77, tx] }) (B : Nat) (v : Value) (l : List UInt8) (hs : a.eval sl = v) (hown : Bytes w B v l) (X : Value) (news : List UInt8) (hx : a.eval x = X) (hsrc : Src Tryz.prog 1 tx X news.length (news.map byteV) w)
    (hlen : l.length + news.length ≤ 140737488355328) (hB : B ≤ w.heap.size)
    (h : ∀ ad n c w', Bytes w' B (.slice ad n c) (l ++ news) → Mv w v w' (.slice ad n c) → K (a.put o.dst (.slice ad n c)) w') : o.wp Tryz.prog a w K Q := by
  obtain ⟨v', w', hr, h1, h2⟩ := run_append_bytes w B o.type tx v l news hown X hsrc hlen hB
  obtain ⟨ad, n, c, rfl⟩ := h1.shape
  unfold Oper.wp execOp
  simp only [ho, resolve, invoke, builtin, Sem.run_bind, Sem.run_pure, Result.andThen_ok, List.map_toArray, List.map_cons, List.map_nil, hs, hx, hr]
  exact h _ _ _ _ h1 h2
theorem src_hash {w : World} {g : Nat} {h : Nat → UInt8} (hH : Has w g 25 (bv h) 32) : Src Tryz.prog 1 77 (.slice (some ⟨g, 0, none⟩) 32 32) (hl h).length ((hl h).map byteV) w := by
  rw [hl_length, hl_bv]
  refine Src.ofSlice w Tryz.underlying77 ⟨g, 0, none⟩ 32 32 _ (by simp [tabv]) (fun j u hu => World.news_of_block hH j u hu) (fun u hu => ?_)
  simp only [tabv, List.mem_map, List.mem_range] at hu
  obtain ⟨i, _, rfl⟩ := hu
  rfl
attribute [local go_sem ↓] Go.wp_at_zero Go.wp_at_succ
set_option maxRecDepth 100000 in
set_option maxHeartbeats 2000000 in
theorem wHash (h : Nat → UInt8) (p : Nat) (v : Value) (s : Option (List UInt8)) (w : World) (hC : CW w p v s) (hlen : ∀ l, s = some l → l.length + 32 ≤ 140737488355328) :
    Calls Tryz.prog 141 #[.pointer (some ⟨p, 0, none⟩), .agg (tabv (bv h) 32)] w fun e w' => e = .returned (.tuple #[]) ∧ ∃ v', CW w' p v' (s.map (· ++ hl h)) ∧ Mw p w v w' v' := by
  have HL := hide hlen
  clear hlen
  have g0 := Has.new w 25 (bv h) 32 _ rfl
  have gb := (Below.refl w.heap.size w).alloc (Nat.le_refl _) (.cells (tabv (bv h) 32) 25)
  have hC1 := hC.below gb
  cases s with
  | none =>
    have c1 := hC1.1.c1
    have HG := hide gb
    clear gb g0
    go_enter Tryz.func141, Tryz.ntmps141
    go_wp2
    go_end0
    exact ⟨rfl, v, hC1, Mw.of_below HG.out⟩
  | some l =>
    have c1 := hC1.1.c1
    have c0 := hC1.1.c0
    have hplt := hC1.1.lt
    obtain ⟨g, hg⟩ : ∃ g, w.heap.size = g := ⟨_, rfl⟩
    have HG := hide gb
    have HH := hide g0
    have HP : Hid (p + 1 ≤ (w.alloc (.cells (tabv (bv h) 32) 25)).heap.size) := hplt
    have HLL : Hid (l.length + (hl h).length ≤ 140737488355328) := by
      show _ ≤ _
      rw [hl_length]; exact HL.out l rfl
    clear gb g0 hplt
    go_enter Tryz.func141, Tryz.ntmps141
    go_wp2
    generalize hw1 : w.alloc (.cells (tabv (bv h) 32) 25) = w1 at hC1 c0 c1 HG HH HP ⊢
    rw [hg] at HH
    clear hw1
    refine wp_region_noPanic ?_
    refine wp_region_held_drew (S := fun _ => True) (by kernel_rfl) trivial (fun hHeld => ?_)
    refine takeH 0 (some 9) (.pointer (some ⟨p, 0, none⟩)) rfl rfl (by kernel_rfl) (by kernel_rfl) (by kernel_rfl) (fun _ _ _ h => h) (by rfl) (fun w hw => by first | rfl | (go_simp; done) | (go_simp; rfl)) hHeld ?_
    simp only [Act.put, List.setIfInBounds_toArray, List.set_cons_zero, List.set_cons_succ]
    refine takeH 1 (some 10) (.pointer (some ⟨p, 0, none⟩)) rfl rfl (by kernel_rfl) (by kernel_rfl) (by kernel_rfl) (fun _ _ _ h => h) (by rfl) (fun w hw => by first | rfl | (go_simp; done) | (go_simp; rfl)) hHeld ?_
    simp only [Act.put, List.setIfInBounds_toArray, List.set_cons_zero, List.set_cons_succ]
    refine takeH 2 (some 11) (.pointer (some ⟨p, 0, none⟩)) rfl rfl (by kernel_rfl) (by kernel_rfl) (by kernel_rfl) (fun _ _ _ h => h) (by rfl) (fun w hw => by first | rfl | (go_simp; done) | (go_simp; rfl)) hHeld ?_
    simp only [Act.put, List.setIfInBounds_toArray, List.set_cons_zero, List.set_cons_succ]
    refine takeH 3 (some 12) (.pointer (some ⟨p, 0, none⟩)) rfl rfl (by kernel_rfl) (by kernel_rfl) (by kernel_rfl) (fun _ _ _ h => h) (by rfl) (fun w hw => by first | rfl | (go_simp; done) | (go_simp; rfl)) hHeld ?_
    simp only [Act.put, List.setIfInBounds_toArray, List.set_cons_zero, List.set_cons_succ]
    refine takeH 5 (some 14) (.slice (some ⟨g, 0, none⟩) 32 32) rfl rfl (by kernel_rfl) (by kernel_rfl) (by kernel_rfl) (fun _ _ _ h => h) (by rfl) (fun w hw => by first | rfl | (go_simp; done) | (go_simp; rfl)) hHeld ?_
    simp only [Act.put, List.setIfInBounds_toArray, List.set_cons_zero, List.set_cons_succ]
    refine wpAnyH_ready (rs := [4]) (by kernel_rfl) (by simp) (AllReadyH.cons rfl (fun K hK => ?_) AllReadyH.nil)
    rw [if_pos (by rfl)]
    go_simp
    refine hK.out _ _ trivial (fun hHeld => ?_)
    clear hK K
    refine wpAnyH_ready (rs := [6]) (by kernel_rfl) (by simp) (AllReadyH.cons rfl (fun K hK => ?_) AllReadyH.nil)
    rw [if_pos (by rfl)]
    refine wp_append_src _ _ 77 rfl (p + 1) v l (by rfl) (w := w1.drew) (hC1.2 : Bytes w1.drew (p + 1) v l) (.slice (some ⟨g, 0, none⟩) 32 32) (hl h) (by rfl) (src_hash (w := w1.drew) HH.out) HLL.out HP.out ?_
    intro ad n1 c1' w2 hB2 hM2
    simp only [Act.put, List.setIfInBounds_toArray]
    refine hK.out _ _ trivial (fun hHeld => ?_)
    clear hK K
    obtain ⟨t1, t2, t3, t4⟩ := stored (w := w1.drew) hC1.1 hC1.2 hM2 hB2
    have d0 := t1.c0
    have df := t1.fz 0
    refine takeH 7 (some 16) (.pointer (some ⟨p, 0, none⟩)) rfl rfl (by kernel_rfl) (by kernel_rfl) (by kernel_rfl) (fun _ _ _ h => h) (by rfl) (fun w hw => by first | rfl | (go_simp; done) | (go_simp; rfl)) hHeld ?_
    simp only [Act.put]
    refine takeH 8 (some 17) (.pointer (some ⟨p, 0, none⟩)) rfl rfl (by kernel_rfl) (by kernel_rfl) (by kernel_rfl) (fun _ _ _ h => h) (by rfl) (fun w hw => by first | rfl | (go_simp; done) | (go_simp; rfl)) hHeld ?_
    simp only [Act.put]
    refine wpAnyH_ready (rs := [9]) (by kernel_rfl) (by simp) (AllReadyH.cons rfl (fun K hK => ?_) AllReadyH.nil)
    rw [if_pos (by rfl)]
    go_simp
    refine hK.out _ _ trivial (fun hHeld => ?_)
    clear hK K
    refine ⟨by kernel_rfl, ?_⟩
    refine NoPanic.normal ?_
    go_wp2
    go_end0
    refine ⟨rfl, _, ⟨t2, t3⟩, (Mw.of_below HG.out).trans (Mw.trans (Mw.of_below (Below.refl w1.heap.size w1).drew) t4)⟩
end Go.Proofs.YtlohfoggcdaeiaaGreat.Cu
/-
  Hash of the reader.
-/
namespace Go.Proofs.YtlohfoggcdaeiaaGreat.Cu
set_option maxRecDepth 20000
open Go.RowKit
/-- The hash that bytes are: zeros where there are none. -/
def hOf (b : ByteArray) : Nat → UInt8 := fun i => byteAt b.data.toList i
theorem copied (A : ByteArray) (hA : A.size ≤ 32) : ((tabv (fun _ => .int .u8 0) 32).toList.take 0 ++ A.data.toList.map byteV ++ (tabv (fun _ => .int .u8 0) 32).toList.drop (0 + (A.data.toList.map byteV).length)).toArray = tabv (bv (hOf A)) 32 := by
  refine tabv_ext _ _ _ (by simp [tabv]; omega) fun i hi => ?_
  rw [List.getElem?_toArray, List.take_zero, List.nil_append, Nat.zero_add, List.length_map, str_len]
  unfold bv hOf byteAt
  by_cases h : i < A.size
  · have hl : i < A.data.toList.length := by rw [str_len]; exact h
    rw [List.getElem?_append_left (by rw [List.length_map]; exact hl), List.getElem?_map, List.getElem?_eq_getElem hl, List.getD_eq_getElem?_getD, List.getElem?_eq_getElem hl]
    rfl
  · rw [List.getElem?_append_right (by rw [List.length_map, str_len]; omega), List.length_map, str_len, List.getElem?_drop, show A.size + (i - A.size) = i by omega, Array.getElem?_toList, tabv_get _ _ _ hi, List.getD_eq_getElem?_getD, List.getElem?_eq_none (by rw [str_len]; omega)]
    rfl
theorem wp_copy_text {o : Oper} {a : Act} {w : World} {K : Act → World → Prop} {Q : Exit → Act → World → Prop} (d s : Operand) (ho : o.op = .call { callee := .builtin .copy, args := #[d, s], argTypes := #[77, 9] }) (g dLen dCap : Nat) (r : ByteArray) (hd : a.eval d = .slice (some ⟨g, 0, none⟩) dLen dCap) (hs : a.eval s = .string r)
    (t : TypeId) (cur : Array Value) (hle : r.size ≤ dLen) (hg : w.heap[g]? = some (.cells cur t (0, 0))) (hfit : r.size ≤ cur.size) (cs : Array Value) (hcs : (cur.toList.take 0 ++ r.data.toList.map byteV ++ cur.toList.drop (0 + (r.data.toList.map byteV).length)).toArray = cs)
    (h : K (a.put o.dst (.int .i64 (r.size : Int))) (w.setRow g cs)) : o.wp Tryz.prog a w K Q := by
  have hr := run_copy_text w o.type g 0 dLen dCap r t cur hle hg (by omega)
  rw [hcs] at hr
  unfold Oper.wp execOp
  simp only [ho, resolve, invoke, builtin, Sem.run_bind, Sem.run_pure, Result.andThen_ok, List.map_toArray, List.map_cons, List.map_nil, hd, hs, hr]
  exact h
theorem Mr.low {p : Nat} {w w1 w2 : World} (h : Mr p w w1) (hb : Below w.heap.size w1 w2) : Mr p w w2 :=
  ⟨hb.os.trans (Mw.os h), hb.tape.trans (Mw.tape h), hb.output.trans (Mw.output h), Nat.le_trans (Mr.size h) hb.size, fun k hk hp _ => (hb.block k hk).trans (Mr.block h k hk hp), fun _ h => by simp [Value.ownBlock] at h⟩
attribute [local go_sem ↓] Go.wp_at_zero Go.wp_at_succ
set_option maxRecDepth 100000 in
set_option maxHeartbeats 2000000 in
theorem rHash (p : Nat) (st : RS) (w : World) (h : CR w p st) : Calls Tryz.prog 60 #[.pointer (some ⟨p, 0, none⟩)] w fun e w' => e = .returned (.agg (tabv (bv (hOf (takeA 32 st))) 32)) ∧ CR w' p (takeS 32 st) ∧ Mr p w w' := by
  obtain ⟨A, hA⟩ : ∃ A, takeA 32 st = A := ⟨_, rfl⟩
  have hAs : A.size ≤ 32 := by rw [← hA]; exact takeA_le 32 st
  have hplt := h.lt
  go_enter Tryz.func60, Tryz.ntmps60
  go_wp2
  generalize hW : World.alloc (World.alloc w _) _ = w2
  have kb : Below w.heap.size w w2 := by rw [← hW]; exact ((Below.refl _ _).alloc (Nat.le_refl _) _).alloc (by simp) _
  have k0 : Has w2 w.heap.size 25 (fun _ => .int .u8 0) 32 := by rw [← hW]; exact (Has.new w 25 (fun _ => .int .u8 0) 32 _ rfl).old _
  have k1 : Has w2 (w.heap.size + 1) 25 (fun _ => .int .u8 0) 32 := by
    rw [← hW]
    have := Has.new (w.alloc (.cells (tabv (fun _ => .int .u8 0) 32) 25)) 25 (fun _ => .int .u8 0) 32 _ rfl
    simp only [World.size_alloc] at this
    exact this
  have h2 := h.below kb
  have hsz : w2.heap.size = w.heap.size + 2 := by rw [← hW]; simp
  have HS := hide hsz
  clear hW hsz
  refine wp_region_noPanic ?_
  refine wp_region_held_drew (S := fun _ => True) (by kernel_rfl) trivial (fun hHeld => ?_)
  refine takeH 0 (some 4) (.slice (some ⟨w.heap.size + 1, 0, none⟩) 32 32) rfl rfl (by kernel_rfl) (by kernel_rfl) (by kernel_rfl) (fun _ _ _ h => h) (by rfl) (fun w hw => by first | rfl | (go_simp; done) | (go_simp; rfl)) hHeld ?_
  simp only [Act.put, List.setIfInBounds_toArray, List.set_cons_zero, List.set_cons_succ]
  refine takeH 1 (some 5) (.pointer (some ⟨p, 0, none⟩)) rfl rfl (by kernel_rfl) (by kernel_rfl) (by kernel_rfl) (fun _ _ _ h => h) (by rfl) (fun w hw => by first | rfl | (go_simp; done) | (go_simp; rfl)) hHeld ?_
  simp only [Act.put, List.setIfInBounds_toArray, List.set_cons_zero, List.set_cons_succ]
  refine wpAnyH_ready (rs := [2]) (by kernel_rfl) (by simp) (AllReadyH.cons rfl (fun K hK => ?_) AllReadyH.nil)
  rw [if_pos (by rfl)]
  go_simp
  refine (rTake 32 p st w2.drew (h2 : CR w2.drew p st) (.inr (by decide))).mono ?_
  rintro e w3 ⟨rfl, h3, hM3⟩
  rw [hA]
  have j0 : Has w3 w.heap.size 25 (fun _ => .int .u8 0) 32 := by
    have := hM3.block w.heap.size (by show _ < w2.heap.size; have := HS.out; omega) (by omega)
    unfold Has; rw [this]; exact k0
  have j1 : Has w3 (w.heap.size + 1) 25 (fun _ => .int .u8 0) 32 := by
    have := hM3.block (w.heap.size + 1) (by show _ < w2.heap.size; have := HS.out; omega) (by omega)
    unfold Has; rw [this]; exact k1
  try go_wp2_with fail
  refine hK.out _ _ trivial (fun hHeld => ?_)
  clear hK K k0 k1
  refine wpAnyH_ready (rs := [3]) (by kernel_rfl) (by simp) (AllReadyH.cons rfl (fun K hK => ?_) AllReadyH.nil)
  rw [if_pos (by rfl)]
  refine wp_copy_text _ _ rfl (w.heap.size + 1) 32 32 A (by rfl) (by rfl) 25 _ hAs j1 (by rw [tabv_size]; exact hAs) _ (copied A hAs) ?_
  refine hK.out _ _ trivial (fun hHeld => ?_)
  clear hK K
  have i1 : Has (w3.setRow (w.heap.size + 1) (tabv (bv (hOf A)) 32)) (w.heap.size + 1) 25 (bv (hOf A)) 32 := j1.row _ _ rfl
  have i0 := j0.row_other (w.heap.size + 1) (tabv (bv (hOf A)) 32) (by omega)
  have b4 : Below w.heap.size w3 (w3.setRow (w.heap.size + 1) (tabv (bv (hOf A)) 32)) := below_setRow (Below.refl _ _) (by omega) _
  generalize hW4 : w3.setRow (w.heap.size + 1) (tabv (bv (hOf A)) 32) = w4 at i0 i1 b4 ⊢
  refine ⟨by kernel_rfl, ?_⟩
  refine NoPanic.normal ?_
  have I0 := hide i0
  have I1 := hide i1
  clear i0 i1
  go_wp2_with (first | (refine wpList_load_part rfl 25 _ rfl (w.heap.size + 1) 0 rfl 25 _ 32 32 _ I1.out (by omega) Tryz.underlying25 rfl info54 (bv (hOf A)) (fun i _ => by rw [Nat.zero_add]) ?_) | (refine wpList_store_part rfl 25 _ _ rfl rfl w.heap.size 0 (bv (hOf A)) 32 rfl rfl 25 _ 32 I0.out (by omega) info54 (fun _ _ => rfl) (bv (hOf A)) (fun i hi => by unfold splice; rw [if_pos (by omega), Nat.sub_zero]) ?_))
  refine bodyPost_ret (results_cell_row rfl _ _ w.heap.size 25 _ (0, 0) _ rfl (I0.out.row _ _ rfl) Tryz.underlying25 rfl (by rw [tabv_size]; exact info54)) rfl ⟨by rw [hA], ?_, ?_⟩
  · exact h3.same (((below_setRow b4 (Nat.le_refl _) _).block p hplt))
  · exact Mr.low (Mr.trans (Mr.trans (Mr.of kb) (Mr.of (Below.refl w2.heap.size w2).drew)) hM3) (below_setRow b4 (Nat.le_refl _) _)
end Go.Proofs.YtlohfoggcdaeiaaGreat.Cu
