/-
  Hash of the writer and of the reader.
-/
import Derived.Test.YtfohdolhobooiaaCurTab
import Derived.Deep.DrawnRows
namespace Go.Proofs.Ytfohdolhobooiaa.Cu
open Go.RowKit
def hl (h : Nat → UInt8) : List UInt8 := (List.range 32).map h
theorem hl_length (h : Nat → UInt8) : (hl h).length = 32 := by simp [hl]
theorem hl_bv (h : Nat → UInt8) : (hl h).map byteV = (tabv (bv h) 32).toList := by
  unfold hl tabv; rw [List.map_map]; rfl
theorem wp_append_src {o : Oper} {a : Act} {w : World} {K : Act → World → Prop} {Q : Exit → Act → World → Prop} (sl x : Operand) (tx : TypeId)
    (ho : o.op = .call { callee := .builtin .append, args := #[sl, x], argTypes := #[44, tx] }) (B : Nat) (v : Value) (l : List UInt8) (hs : a.eval sl = v) (hown : Bytes w B v l) (X : Value) (news : List UInt8) (hx : a.eval x = X) (hsrc : Src Try.prog 1 tx X news.length (news.map byteV) w)
    (hlen : l.length + news.length ≤ 140737488355328) (hB : B ≤ w.heap.size)
    (h : ∀ ad n c w', Bytes w' B (.slice ad n c) (l ++ news) → Mv w v w' (.slice ad n c) → K (a.put o.dst (.slice ad n c)) w') : o.wp Try.prog a w K Q := by
  obtain ⟨v', w', hr, h1, h2⟩ := run_append_bytes w B o.type tx v l news hown X hsrc hlen hB
  obtain ⟨ad, n, c, rfl⟩ := h1.shape
  unfold Oper.wp execOp
  simp only [ho, resolve, invoke, builtin, Sem.run_bind, Sem.run_pure, Result.andThen_ok, List.map_toArray, List.map_cons, List.map_nil, hs, hx, hr]
  exact h _ _ _ _ h1 h2
theorem src_hash {w : World} {g : Nat} {h : Nat → UInt8} (hH : Has w g 23 (bv h) 32) : Src Try.prog 1 44 (.slice (some ⟨g, 0, none⟩) 32 32) (hl h).length ((hl h).map byteV) w := by
  rw [hl_length, hl_bv]
  refine Src.ofSlice w Try.underlying44 ⟨g, 0, none⟩ 32 32 _ (by simp [tabv]) (fun j u hu => World.news_of_block hH j u hu) (fun u hu => ?_)
  simp only [tabv, List.mem_map, List.mem_range] at hu
  obtain ⟨i, _, rfl⟩ := hu
  rfl
attribute [local go_sem ↓] Go.wp_at_zero Go.wp_at_succ
set_option maxRecDepth 5000 in
set_option maxHeartbeats 2000000 in
theorem wHash (h : Nat → UInt8) (p : Nat) (v : Value) (s : Option (List UInt8)) (w : World) (hC : CW w p v s) (hlen : ∀ l, s = some l → l.length + 32 ≤ 140737488355328) :
    Calls Try.prog 30 #[.pointer (some ⟨p, 0, none⟩), .agg (tabv (bv h) 32)] w fun e w' => e = .returned (.tuple #[]) ∧ ∃ v', CW w' p v' (s.map (· ++ hl h)) ∧ Mw p w v w' v' := by
  have HL := hide hlen
  clear hlen
  have g0 := Has.new w 23 (bv h) 32 _ rfl
  have gb := (Below.refl w.heap.size w).alloc (Nat.le_refl _) (.cells (tabv (bv h) 32) 23)
  have hC1 := hC.below gb
  cases s with
  | none =>
    have c1 := hC1.1.c1
    have HG := hide gb
    clear gb g0
    go_enter Try.func30, Try.ntmps30
    go_wp2
    go_end0
    exact ⟨rfl, v, hC1, Mw.of_below HG.out⟩
  | some l =>
    have c1 := hC1.1.c1
    have c0 := hC1.1.c0
    have hplt := hC1.1.lt
    obtain ⟨g, hg⟩ : ∃ g, w.heap.size = g := ⟨_, rfl⟩
    have HG := hide gb
    have HH := hide g0
    have HP : Hid (p + 1 ≤ (w.alloc (.cells (tabv (bv h) 32) 23)).heap.size) := hplt
    have HLL : Hid (l.length + (hl h).length ≤ 140737488355328) := by
      show _ ≤ _
      rw [hl_length]; exact HL.out l rfl
    clear gb g0 hplt
    go_enter Try.func30, Try.ntmps30
    go_wp2
    generalize hw1 : w.alloc (.cells (tabv (bv h) 32) 23) = w1 at hC1 c0 c1 HG HH HP ⊢
    rw [hg] at HH
    clear hw1
    refine wp_region_noPanic ?_
    refine wp_region_held_drew (S := fun _ => True) (by kernel_rfl) trivial (fun hHeld => ?_)
    refine takeH 0 (some 9) (.pointer (some ⟨p, 0, none⟩)) rfl rfl (by kernel_rfl) (by kernel_rfl) (by kernel_rfl) (fun _ _ _ h => h) (by rfl) (fun w hw => by first | rfl | (go_simp; done) | (go_simp; rfl)) hHeld ?_
    simp only [Act.put, List.setIfInBounds_toArray, List.set_cons_zero, List.set_cons_succ]
    refine takeH 1 (some 10) (.pointer (some ⟨p, 0, none⟩)) rfl rfl (by kernel_rfl) (by kernel_rfl) (by kernel_rfl) (fun _ _ _ h => h) (by rfl) (fun w hw => by first | rfl | (go_simp; done) | (go_simp; rfl)) hHeld ?_
    simp only [Act.put, List.setIfInBounds_toArray, List.set_cons_zero, List.set_cons_succ]
    refine takeH 2 (some 11) (.pointer (some ⟨p, 0, none⟩)) rfl rfl (by kernel_rfl) (by kernel_rfl) (by kernel_rfl) (fun _ _ _ h => h) (by rfl) (fun w hw => by first | rfl | (go_simp; done) | (go_simp; rfl)) hHeld ?_
    simp only [Act.put, List.setIfInBounds_toArray, List.set_cons_zero, List.set_cons_succ]
    refine takeH 3 (some 12) (.pointer (some ⟨p, 0, none⟩)) rfl rfl (by kernel_rfl) (by kernel_rfl) (by kernel_rfl) (fun _ _ _ h => h) (by rfl) (fun w hw => by first | rfl | (go_simp; done) | (go_simp; rfl)) hHeld ?_
    simp only [Act.put, List.setIfInBounds_toArray, List.set_cons_zero, List.set_cons_succ]
    refine takeH 5 (some 14) (.slice (some ⟨g, 0, none⟩) 32 32) rfl rfl (by kernel_rfl) (by kernel_rfl) (by kernel_rfl) (fun _ _ _ h => h) (by rfl) (fun w hw => by first | rfl | (go_simp; done) | (go_simp; rfl)) hHeld ?_
    simp only [Act.put, List.setIfInBounds_toArray, List.set_cons_zero, List.set_cons_succ]
    refine wpAnyH_ready (rs := [4]) (by kernel_rfl) (by simp) (AllReadyH.cons rfl (fun K hK => ?_) AllReadyH.nil)
    rw [if_pos (by rfl)]
    go_simp
    refine hK.out _ _ trivial (fun hHeld => ?_)
    clear hK K
    refine wpAnyH_ready (rs := [6]) (by kernel_rfl) (by simp) (AllReadyH.cons rfl (fun K hK => ?_) AllReadyH.nil)
    rw [if_pos (by rfl)]
    refine wp_append_src _ _ 44 rfl (p + 1) v l (by rfl) (w := w1.drew) (hC1.2 : Bytes w1.drew (p + 1) v l) (.slice (some ⟨g, 0, none⟩) 32 32) (hl h) (by rfl) (src_hash (w := w1.drew) HH.out) HLL.out HP.out ?_
    intro ad n1 c1' w2 hB2 hM2
    simp only [Act.put, List.setIfInBounds_toArray]
    refine hK.out _ _ trivial (fun hHeld => ?_)
    clear hK K
    obtain ⟨t1, t2, t3, t4⟩ := stored (w := w1.drew) hC1.1 hC1.2 hM2 hB2
    have d0 := t1.c0
    have df := t1.fz 0
    refine takeH 7 (some 16) (.pointer (some ⟨p, 0, none⟩)) rfl rfl (by kernel_rfl) (by kernel_rfl) (by kernel_rfl) (fun _ _ _ h => h) (by rfl) (fun w hw => by first | rfl | (go_simp; done) | (go_simp; rfl)) hHeld ?_
    simp only [Act.put]
    refine takeH 8 (some 17) (.pointer (some ⟨p, 0, none⟩)) rfl rfl (by kernel_rfl) (by kernel_rfl) (by kernel_rfl) (fun _ _ _ h => h) (by rfl) (fun w hw => by first | rfl | (go_simp; done) | (go_simp; rfl)) hHeld ?_
    simp only [Act.put]
    refine wpAnyH_ready (rs := [9]) (by kernel_rfl) (by simp) (AllReadyH.cons rfl (fun K hK => ?_) AllReadyH.nil)
    rw [if_pos (by rfl)]
    go_simp
    refine hK.out _ _ trivial (fun hHeld => ?_)
    clear hK K
    refine ⟨by kernel_rfl, ?_⟩
    refine NoPanic.normal ?_
    go_wp2
    go_end0
    refine ⟨rfl, _, ⟨t2, t3⟩, (Mw.of_below HG.out).trans (Mw.trans (Mw.of_below (Below.refl w1.heap.size w1).drew) t4)⟩
end Go.Proofs.Ytfohdolhobooiaa.Cu
