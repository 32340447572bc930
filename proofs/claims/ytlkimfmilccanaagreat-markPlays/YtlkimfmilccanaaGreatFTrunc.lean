import Derived.Test.YtlkimfmilccanaaGreatFSyncA
/-
  file.sync: the walk.
-/
namespace Go.Proofs.YtlkimfmilccanaaGreat
open Go.RowKit Go.Maps Go.WideMaps
set_option linter.unusedSimpArgs false
theorem wpList_run_copy {P : Program} {ops : Array Oper} {rest : List Oper} {o : Oper} {a : Act} {w : World} {Q : Exit → Act → World → Prop} (hgd : o.guard = none) (d x : Operand) (tys : Array TypeId) (ho : o.op = .call { callee := .builtin .copy, args := #[d, x], argTypes := tys }) (v : Value) (w' : World)
    (h : (Builtin.copy_ tys o.type #[a.eval d, a.eval x]).run P w = .ok v w') (hk : wpList P ops Q rest (a.put o.dst v) w') : wpList P ops Q (o :: rest) a w :=
  wpList_plain hgd fun K hK => by
    unfold Oper.wp
    rw [run_copy_op d x tys ho h]
    exact hK _ _ hk
theorem Mid.drewN {w0 w : World} {c c' : FC} {F : AF} {L M : List UInt8} (h : Mid w0 c c' F L M w) (n : Nat) : Mid w0 c c' F L M (w.drewN n) := h.below ⟨rfl, rfl, rfl, Nat.le_refl _, fun _ _ => rfl⟩
set_option maxRecDepth 5000 in
set_option maxHeartbeats 1000000 in
theorem fsync_any (w : World) (c : FC) (F : AF) (h : FileAt w c F) :
    Calls Tryz.prog 76 #[.pointer (some ⟨c.g, 0, none⟩)] w fun e w' => e = .returned (.tuple #[]) ∧ ∃ c', FileAt w' c' F.sync ∧ FStep c c' w w' := by
  have HH := hide h
  have hmm := @run_makeMap Tryz.prog
  have c0 := h.c0
  have c1 := h.c1
  have hok := h.ok
  have hle := hok.le
  have hmo := hok.most
  obtain ⟨u, hsl, hpc⟩ := run_slice_from w h.seen F.safe.length hle
  obtain ⟨ad, cp, hv⟩ := h.seen.shape
  obtain ⟨ad1, cp1, hv1⟩ := h.safe.shape
  have hsrc := src_piece (h.drew).seen hpc (by omega)
  have e9 : (F.seen.drop F.safe.length).take (F.seen.length - F.safe.length) = F.seen.drop F.safe.length := List.take_of_length_le (by rw [List.length_drop]; omega)
  rw [e9] at hsrc
  obtain ⟨v2, w2, hap, hB2, hM2⟩ := run_append_bytes w.drew 0 42 42 c.fv F.safe _ (h.drew).safe u hsrc (by rw [List.length_drop]; omega) (Nat.zero_le _)
  have hmid := mid_safe h hM2 hB2
  have k2 : w2.heap[c.g]? = w.heap[c.g]? := hM2.gr.block c.g (lt_of_some h.cells) (fun e => h.fg e.symm)
  have e0 : w2.cell? ⟨c.g, 0, none⟩ = some c.sv := by rw [World.cell?_of_block k2]; exact h.c0
  have e1 : w2.cell? ⟨c.g, 1, none⟩ = some c.fv := by rw [World.cell?_of_block k2]; exact h.c1
  have ez : w2.frozen? ⟨c.g, 1, none⟩ = false := by rw [World.frozen?_of_block k2]; exact h.fz 1
  obtain ⟨ad2, cp2, hv2⟩ := hB2.shape
  obtain ⟨N, hN⟩ : ∃ N, (F.safe ++ F.seen.drop F.safe.length).length = N := ⟨_, rfl⟩
  rw [hN] at hv2
  subst hv2
  have HV := hide hv
  have HV1 := hide hv1
  have hgs := lt_of_some h.cells
  rw [hv] at c0 hsl e0
  rw [hv1] at c1 hap e1
  have HAP := hide hap
  have HSL := hide hsl
  have HMD := hide hmid
  have HS2 : Hid (w2.cell? ⟨c.g, 0, none⟩ = some (.slice ad F.seen.length cp) ∧ w2.cell? ⟨c.g, 1, none⟩ = some (.slice ad1 F.safe.length cp1)) := ⟨e0, e1⟩
  have HS1 : Hid (w.cell? ⟨c.g, 0, none⟩ = some (.slice ad F.seen.length cp) ∧ w.cell? ⟨c.g, 1, none⟩ = some (.slice ad1 F.safe.length cp1)) := ⟨c0, c1⟩
  clear hpc h hv hv1 e9 hsrc hM2 hB2 k2 hap hsl hmid hN c0 c1 e0
  go_enter Tryz.func76, Tryz.ntmps76
  go_wp2
  refine wp_region_noPanic ?_
  refine wp_region_T (S := fun wx => wx.cell? ⟨c.g, 0, none⟩ = some (.slice ad F.seen.length cp) ∧ wx.cell? ⟨c.g, 1, none⟩ = some (.slice ad1 F.safe.length cp1)) 18 (by kernel_rfl) HS1.out (fun hHeld => ?_)
  refine tT 0 (some 3) (.pointer (some ⟨c.g, 0, none⟩)) rfl hHeld ?_
  simp only [Act.put, pA, pB, pC]
  refine tT 1 (some 4) (.pointer (some ⟨c.g, 0, none⟩)) rfl hHeld ?_
  simp only [Act.put, pA, pB, pC]
  refine tT 2 (some 5) (.pointer (some ⟨c.g, 0, none⟩)) rfl hHeld ?_
  simp only [Act.put, pA, pB, pC]
  refine tT 3 (some 6) (.pointer (some ⟨c.g, 1, none⟩)) rfl hHeld ?_
  simp only [Act.put, pA, pB, pC]
  refine tU 4 (some 7) (.slice ad1 F.safe.length cp1) rfl (fun w hw => by have hw' := hw.2; first | (go_simp; done) | (go_simp; rfl)) hHeld ?_
  simp only [Act.put, pA, pB, pC]
  refine tT 5 (some 8) (.pointer (some ⟨c.g, 0, none⟩)) rfl hHeld ?_
  simp only [Act.put, pA, pB, pC]
  refine tT 6 (some 9) (.pointer (some ⟨c.g, 0, none⟩)) rfl hHeld ?_
  simp only [Act.put, pA, pB, pC]
  refine tT 7 (some 10) (.pointer (some ⟨c.g, 0, none⟩)) rfl hHeld ?_
  simp only [Act.put, pA, pB, pC]
  refine tU 8 (some 11) (.slice ad F.seen.length cp) rfl (fun w hw => by have hw' := hw.1; first | (go_simp; done) | (go_simp; rfl)) hHeld ?_
  simp only [Act.put, pA, pB, pC]
  refine tT 9 (some 12) (.pointer (some ⟨c.g, 0, none⟩)) rfl hHeld ?_
  simp only [Act.put, pA, pB, pC]
  refine tT 10 (some 13) (.pointer (some ⟨c.g, 0, none⟩)) rfl hHeld ?_
  simp only [Act.put, pA, pB, pC]
  refine tT 11 (some 14) (.pointer (some ⟨c.g, 1, none⟩)) rfl hHeld ?_
  simp only [Act.put, pA, pB, pC]
  refine tU 12 (some 15) (.slice ad1 F.safe.length cp1) rfl (fun w hw => by have hw' := hw.2; first | (go_simp; done) | (go_simp; rfl)) hHeld ?_
  simp only [Act.put, pA, pB, pC]
  refine tT 13 (some 16) (.int .i64 (F.safe.length : Int)) rfl hHeld ?_
  simp only [Act.put, pA, pB, pC]
  refine tU 14 (some 17) u rfl (fun w hw => by have hq := HSL.out w; first | (go_simp; done) | (go_simp; rfl)) hHeld ?_
  simp only [Act.put, pA, pB, pC]
  refine readyT 15 (by kernel_rfl) rfl (by rfl) (fun K hK => ?_)
  refine wpRun (run_append_op _ _ _ rfl HAP.out) ?_
  simp only [Act.put, pA, pB, pC]
  refine hK.out _ _ (fun _ => HS2.out) (fun hH => ?_)
  have hHeld := hH (by decide)
  clear hK K hH
  refine readyT 16 (by kernel_rfl) rfl (by rfl) (fun K hK => ?_)
  go_simp
  refine hK.out _ _ (fun _ => hHeld) (fun hH => ?_)
  clear hHeld
  have hHeld := hH (by decide)
  clear hK K hH
  refine readyT 17 (by kernel_rfl) rfl (by rfl) (fun K hK => ?_)
  go_simp
  refine hK.out _ _ (fun _ => hHeld) (fun hH => ?_)
  clear hHeld
  have hHeld := hH (by decide)
  clear hK K hH
  refine readyT 18 (by kernel_rfl) rfl (by rfl) (fun K hK => ?_)
  go_simp
  refine hK.out _ _ (fun x => absurd rfl x) (fun _ => ?_)
  clear hK K hHeld
  refine ⟨by kernel_rfl, ?_⟩
  refine NoPanic.normal ?_
  generalize hW : w2.setCell ⟨c.g, 1, none⟩ (.slice ad2 N cp2) = w3 at HMD ⊢
  have d2 := HMD.out.c2
  clear hW e1 ez
  go_wp2_with (first | (at_range; refine wpList_range_dirty _ rfl _ rfl F c.dm (by rfl) HMD.out.dirty ?_; intro w4 hrg4 hb4 hlt4) | go_in)
  try go_frame

  clear d2
  obtain ⟨r, hr⟩ : ∃ r, w3.heap.size = r := ⟨_, rfl⟩
  rw [hr] at hrg4 hb4 hlt4 ⊢
  have hr0 : w.heap.size ≤ r := by rw [← hr]; exact HMD.out.step.turn.size
  have hrn : ∀ b, (FC.mk c.g c.dm c.sv (.slice ad2 N cp2)).has b → b < r := fun b hb => by rw [← hr]; exact HMD.out.lt b hb
  have hm4 := HMD.out.below (by rw [hr]; exact hb4)
  clear hr
  go_loopw [2] (fun _ wr => ∃ left cnt, wr.ranges Tryz.prog 3 (unitElem (H := Unit)) c.dm r 16384 (dirtyD F) left cnt ∧ Mid w c ⟨c.g, c.dm, c.sv, .slice ad2 N cp2⟩ F F.seen (mixL F left) wr) (fun _ wr => wr.rangeLeft c.dm r)
  case atStart => exact ⟨_, _, hrg4, by rw [mixL_start hok]; exact hm4⟩
  case round =>
    clear hrg4 hm4 hb4 hlt4
    obtain ⟨left, cnt, hrg, hmid⟩ := hrel
    have HR := hide hrg
    have HM := hide hmid
    clear hrg hmid
    go_wp2_with (first | (at_next; refine wpList_next_dirty _ rfl _ rfl F hok c.dm r 16384 left cnt (by rfl) HR.out ?_ ?_) | go_in)
    · intro hl0
      have hm6 := HM.out
      rw [mixL_end hok hl0] at hm6
      obtain ⟨c6, hg6, hf6, hs6⟩ := hm6.fresh hok.sync
      have x2 := hm6.c2
      have xz := hm6.fz 2
      have ea : (wr.alloc (.map #[] 0)).heap[c.g]? = wr.heap[c.g]? := Below.heap_alloc wr _ c.g (lt_of_some hm6.cells)
      have y2 : (wr.alloc (.map #[] 0)).cell? ⟨c.g, 2, none⟩ = some (.map (some c.dm)) := by rw [World.cell?_of_block ea]; exact x2
      have yz : (wr.alloc (.map #[] 0)).frozen? ⟨c.g, 2, none⟩ = false := by rw [World.frozen?_of_block ea]; exact xz
      have HF6 := hide hf6
      have HS6 := hide hs6
      clear hm6 hf6 hs6 ea x2 xz
      go_wp2
      go_end0
      exact ⟨rfl, c6, HF6.out, HS6.out⟩
    · intro s w5 cnt5 hd hs hlk hrg5 hlt5 hg5 hen
      have hm5 := HM.out.other hg5 (fun x => by have := hrn r x; omega) hr0
      obtain ⟨u1, hp1, hc1⟩ := sector_any w5 _ _ hm5.safe s hs (by rw [mixL_length]; omega)
      obtain ⟨u2, hp2, hc2⟩ := sector_any w5 _ _ hm5.seen s hs (by omega)
      rw [mixL_length] at hp1
      have x0 := hm5.c0
      have x1 := hm5.c1
      have HP1 := hide hp1
      have HP2 := hide hp2
      have HC1 := hide hc1
      have HC2 := hide hc2
      rw [HV.out] at HC2 x0
      have HRG5 := hide hrg5
      have HM5 := hide hm5
      have HL5 := hide hlt5
      clear hp1 hp2 hc1 hc2 hrg5 hm5 hlt5 hg5
      go_wp2
      refine wp_region_drew_tail 12 (by kernel_rfl) (by kernel_rfl) ?_
      simp only [List.take_succ_cons, List.take_zero, List.drop_succ_cons, List.drop_zero]
      iterate 5 (go_big_quiet_step (fail))
      go_big_quiet_step ((go_at_call 83; exact Calls.quiet_of_same (HC1.out _)))
      iterate 5 (go_big_quiet_step (fail))
      go_big_quiet_step ((go_at_call 83; exact Calls.quiet_of_same (HC2.out _)))
      refine wpQuiet_nil ?_
      intro _ hw'
      obtain ⟨nq, rfl⟩ := hw'
      have hmN := HM5.out.drewN nq
      obtain ⟨w6, hcp6, hB6, hg6⟩ := run_copy_bytes (w5.drewN nq) hmN.safe HP1.out (by rw [mixL_length]; have := sFromTo s F.seen.length; have := sTo_le s F.seen.length; omega) hmN.seen HP2.out (by have := sFromTo s F.seen.length; have := sTo_le s F.seen.length; omega)
      rw [show Nat.min (sTo s F.seen.length - sFrom s F.seen.length) (sTo s F.seen.length - sFrom s F.seen.length) = sTo s F.seen.length - sFrom s F.seen.length from Nat.min_self _, mixL_step hd] at hB6
      have hm6 := hmN.copied hB6 hg6
      have hrg6 : w6.ranges Tryz.prog 3 (unitElem (H := Unit)) c.dm r 16384 (dirtyD F) (fun z => left z && !z.sameKey (.int .i64 (s : Int))) cnt5 := by
        obtain ⟨es, ck, hb, _⟩ := hmN.dirty
        refine ranges_same HRG5.out (hg6.block c.dm hmN.dirty.lt (fun e => hmN.safe.notMap hb e.symm)) (hg6.block r HRG5.out.lt (fun e => ?_))
        have := hrn r (.inr (.inr (.inr e.symm)))
        omega
      have H6 := hide hrg6
      have M6 := hide hm6
      clear hrg6 hm6 hB6 hg6 hmN x0 x1 hen
      refine wpList_run_copy rfl _ _ _ rfl _ w6 (hcp6 _) ?_
      clear hcp6
      go_wp2
      try go_frame
      go_roundw
      case rel => exact ⟨_, cnt5, H6.out, M6.out⟩
      case measure => rw [H6.out.left_eq, HR.out.left_eq]; exact HL5.out
end Go.Proofs.YtlkimfmilccanaaGreat
/-
  file.truncate.
-/
namespace Go.Proofs.YtlkimfmilccanaaGreat
open Go.RowKit Go.Maps Go.WideMaps
set_option linter.unusedSimpArgs false
theorem mid_cut {w : World} {c : FC} {F : AF} {u0 u1 : Value} {L M : List UInt8} (h : FileAt w c F) (h0 : Bytes w 0 u0 L) (o0 : u0.ownBlock = c.sv.ownBlock) (h1 : Bytes w 0 u1 M) (o1 : u1.ownBlock = c.fv.ownBlock) :
    Mid w c ⟨c.g, c.dm, u0, u1⟩ F L M ((w.setCell ⟨c.g, 0, none⟩ u0).setCell ⟨c.g, 1, none⟩ u1).drew := by
  have ne : ∀ b, b ≠ c.g → ((w.setCell ⟨c.g, 0, none⟩ u0).setCell ⟨c.g, 1, none⟩ u1).drew.heap[b]? = w.heap[b]? := fun b hb => by
    show ((w.setCell ⟨c.g, 0, none⟩ u0).setCell ⟨c.g, 1, none⟩ u1).heap[b]? = _
    rw [Below.heap_setCell _ ⟨c.g, 1, none⟩ u1 b hb, Below.heap_setCell w ⟨c.g, 0, none⟩ u0 b hb]
  have e1 : (w.setCell ⟨c.g, 0, none⟩ u0).heap[c.g]? = some (.cells #[u0, c.fv, .map (some c.dm)] 99 (0, 0)) := by
    rw [heap_setCell_same w c.g 0 _ _ _ h.cells]; rfl
  have g0 : u0.ownBlock ≠ some c.g := by rw [o0]; exact h.sg
  have g1 : u1.ownBlock ≠ some c.g := by rw [o1]; exact h.fg
  refine ⟨?_, h0.same (fun k hk => ne k (fun e => g0 (e ▸ hk))), h1.same (fun k hk => ne k (fun e => g1 (e ▸ hk))), ownsMap_same h.dirty (ne c.dm (fun e => h.gd e.symm)), g0, g1, fun b hb hb' => h.sf b (o0 ▸ hb) (o1 ▸ hb'), rfl, ?_, fun b hb => ?_⟩
  · show ((w.setCell ⟨c.g, 0, none⟩ u0).setCell ⟨c.g, 1, none⟩ u1).heap[c.g]? = _
    rw [heap_setCell_same _ c.g 1 _ _ _ e1]; rfl
  · refine ⟨rfl, rfl, rfl, by simp [World.setCell], fun b hb hn => ne b (fun e => hn (.inl e))⟩
  · rcases hb with rfl | rfl | hb | hb
    · exact .inl (.inl rfl)
    · exact .inl (.inr (.inl rfl))
    · exact .inl (.inr (.inr (.inl (o0 ▸ hb))))
    · exact .inl (.inr (.inr (.inr (o1 ▸ hb))))
/-- The set on the way: those that stay, and those that are still to come. -/
def Cutting (D : DataW Unit) (F : AF) (n : Nat) (left : Lit → Bool) : Prop := ∀ s : Int, Maps.has D (.int .i64 s) = (decide (0 ≤ s) && (F.dirty s.toNat && (decide (64 * s.toNat < n) || left (.int .i64 s))))
theorem Cutting.start {F : AF} (h : F.Ok) (n : Nat) : Cutting (dirtyD F) F n (Maps.has (dirtyD F)) := fun s => by
  rw [dirty_has h]
  cases decide (0 ≤ s) <;> cases F.dirty s.toNat <;> cases decide (64 * s.toNat < n) <;> rfl
theorem Cutting.stays {D : DataW Unit} {F : AF} {n : Nat} {left : Lit → Bool} (h : Cutting D F n left) {k : Nat} (hk : 64 * k < n) : Cutting D F n (fun z => left z && !z.sameKey (.int .i64 (k : Int))) := fun s => by
  rw [h s]
  by_cases e : s = (k : Int)
  · subst e
    have : decide (64 * (k : Int).toNat < n) = true := by rw [Int.toNat_natCast]; exact decide_eq_true hk
    rw [this]; rfl
  · have : (Lit.int .i64 s).sameKey (.int .i64 (k : Int)) = false := by simp [Lit.sameKey, e]
    simp only [this, Bool.not_false, Bool.and_true]
theorem Cutting.struck {D : DataW Unit} {F : AF} {n : Nat} {left : Lit → Bool} (h : Cutting D F n left) {k : Nat} (hk : ¬ 64 * k < n) : Cutting (D.del (.int .i64 (k : Int))) F n (fun z => left z && !z.sameKey (.int .i64 (k : Int))) := fun s => by
  by_cases e : s = (k : Int)
  · subst e
    have : decide (64 * (k : Int).toNat < n) = false := by rw [Int.toNat_natCast]; exact decide_eq_false hk
    rw [has_del_same, this]; simp [Lit.sameKey]
  · have : (Lit.int .i64 s).sameKey (.int .i64 (k : Int)) = false := by simp [Lit.sameKey, e]
    rw [has_del_other (fun x => e (by cases x; rfl)), h s]; simp only [this, Bool.not_false, Bool.and_true]
set_option maxRecDepth 5000 in
set_option maxHeartbeats 1000000 in
theorem ftrunc_any (w : World) (c : FC) (F : AF) (h : FileAt w c F) (n : Nat) (hn : n ≤ F.seen.length) :
    Calls Tryz.prog 97 #[.pointer (some ⟨c.g, 0, none⟩), .int .i64 (n : Int)] w fun e w' => e = .returned (.tuple #[]) ∧ ∃ c', FileAt w' c' (F.trunc n) ∧ FStep c c' w w' := by
  have HH := hide h
  have c0 := h.c0
  have c1 := h.c1
  have f0 := h.fz 0
  have f1 := h.fz 1
  have hok := h.ok
  have hmo := hok.most
  obtain ⟨u0, hsl0, hB0, ho0⟩ := run_slice_cut w h.seen n hn
  obtain ⟨q, hq⟩ : ∃ q, min n F.safe.length = q := ⟨_, rfl⟩
  obtain ⟨u1, hsl1, hB1, ho1⟩ := run_slice_cut w h.safe q (by rw [← hq]; exact Nat.min_le_right _ _)
  have eq1 : F.safe.take q = F.safe.take n := by
    rw [← hq]
    by_cases hx : n ≤ F.safe.length
    · rw [Nat.min_eq_left hx]
    · rw [Nat.min_eq_right (by omega), List.take_length, List.take_of_length_le (by omega)]
  rw [eq1] at hB1
  have hmin : (if F.safe.length < n then (F.safe.length : Int) else (n : Int)) = (q : Int) := by split <;> omega
  have hmid := mid_cut h hB0 ho0 hB1 ho1
  obtain ⟨ad, cp, hv⟩ := h.seen.shape
  obtain ⟨ad1, cp1, hv1⟩ := h.safe.shape
  obtain ⟨ax, cx, hx⟩ := hB0.shape
  obtain ⟨ay, cy, hy⟩ := hB1.shape
  obtain ⟨nx, hnx⟩ : ∃ nx, (F.seen.take n).length = nx := ⟨_, rfl⟩
  obtain ⟨ny, hny⟩ : ∃ ny, (F.safe.take n).length = ny := ⟨_, rfl⟩
  rw [hnx] at hx
  rw [hny] at hy
  subst hx
  subst hy
  rw [hv] at c0 hsl0
  rw [hv1] at c1 hsl1
  have HSL1 := hide hsl1
  have HMD := hide hmid
  have HMIN := hide hmin
  clear h hB0 hB1 ho0 ho1 eq1 hv hv1 hmid hnx hny hsl1 hmin hq
  go_enter Tryz.func97, Tryz.ntmps97
  go_wp2
  have x1 : (w.setCell ⟨c.g, 0, none⟩ (.slice ax nx cx)).cell? ⟨c.g, 1, none⟩ = some (.slice ad1 F.safe.length cp1) := by first | (go_simp; done) | (go_simp; rfl)
  have xz : (w.setCell ⟨c.g, 0, none⟩ (.slice ax nx cx)).frozen? ⟨c.g, 1, none⟩ = false := by first | (go_simp; done) | (go_simp; rfl)
  have X1 := hide x1
  have XZ := hide xz
  clear x1 xz
  refine wp_region_noPanic ?_
  refine wp_region_T (S := fun wx => wx.cell? ⟨c.g, 1, none⟩ = some (.slice ad1 F.safe.length cp1) ∧ wx.frozen? ⟨c.g, 1, none⟩ = false) 15 (by kernel_rfl) ⟨X1.out, XZ.out⟩ (fun hHeld => ?_)
  refine tT 0 (some 14) (.pointer (some ⟨c.g, 0, none⟩)) rfl hHeld ?_
  simp only [Act.put, pA, pB, pC]
  refine tT 1 (some 15) (.pointer (some ⟨c.g, 0, none⟩)) rfl hHeld ?_
  simp only [Act.put, pA, pB, pC]
  refine tT 2 (some 16) (.pointer (some ⟨c.g, 0, none⟩)) rfl hHeld ?_
  simp only [Act.put, pA, pB, pC]
  refine tT 3 (some 17) (.pointer (some ⟨c.g, 1, none⟩)) rfl hHeld ?_
  simp only [Act.put, pA, pB, pC]
  refine tU 4 (some 18) (.slice ad1 F.safe.length cp1) rfl (fun w hw => by have hw' := hw.1; first | (go_simp; done) | (go_simp; rfl)) hHeld ?_
  simp only [Act.put, pA, pB, pC]
  refine tT 5 (some 19) (.int .i64 (n : Int)) rfl hHeld ?_
  simp only [Act.put, pA, pB, pC]
  refine tT 6 (some 20) (.pointer (some ⟨c.g, 0, none⟩)) rfl hHeld ?_
  simp only [Act.put, pA, pB, pC]
  refine tT 7 (some 21) (.pointer (some ⟨c.g, 0, none⟩)) rfl hHeld ?_
  simp only [Act.put, pA, pB, pC]
  refine tT 8 (some 22) (.pointer (some ⟨c.g, 1, none⟩)) rfl hHeld ?_
  simp only [Act.put, pA, pB, pC]
  refine tU 9 (some 23) (.slice ad1 F.safe.length cp1) rfl (fun w hw => by have hw' := hw.1; first | (go_simp; done) | (go_simp; rfl)) hHeld ?_
  simp only [Act.put, pA, pB, pC]
  refine tT 10 (some 24) (.int .i64 (F.safe.length : Int)) rfl hHeld ?_
  simp only [Act.put, pA, pB, pC]
  refine tU 11 (some 25) (.int .i64 (q : Int)) rfl (fun w hw => by have hq := HMIN.out; first | (go_simp; done) | (go_simp; rfl)) hHeld ?_
  simp only [Act.put, pA, pB, pC]
  refine tU 12 (some 26) (.slice ay ny cy) rfl (fun w hw => by have hq := HSL1.out w; first | (go_simp; done) | (go_simp; rfl)) hHeld ?_
  simp only [Act.put, pA, pB, pC]
  refine readyT 13 (by kernel_rfl) rfl (by rfl) (fun K hK => ?_)
  go_simp
  refine hK.out _ _ (fun _ => hHeld) (fun hH => ?_)
  clear hHeld
  have hHeld := hH (by decide)
  clear hK K hH
  refine readyT 14 (by kernel_rfl) rfl (by rfl) (fun K hK => ?_)
  go_simp
  refine hK.out _ _ (fun _ => hHeld) (fun hH => ?_)
  clear hHeld
  have hHeld := hH (by decide)
  clear hK K hH
  have y1 := hHeld.1
  have yz := hHeld.2
  refine readyT 15 (by kernel_rfl) rfl (by rfl) (fun K hK => ?_)
  go_simp
  refine hK.out _ _ (fun x => absurd rfl x) (fun _ => ?_)
  clear hK K hHeld y1 yz
  refine ⟨by kernel_rfl, ?_⟩
  refine NoPanic.normal ?_
  generalize hW : ((w.setCell ⟨c.g, 0, none⟩ (.slice ax nx cx)).setCell ⟨c.g, 1, none⟩ (.slice ay ny cy)).drew = w3 at HMD ⊢
  have d2 := HMD.out.c2
  clear hW X1 XZ c0 c1 f0 f1 hsl0
  go_wp2_with (first | (at_range; refine wpList_range_dirty _ rfl _ rfl F c.dm (by rfl) HMD.out.dirty ?_; intro w4 hrg4 hb4 hlt4) | go_in)
  try go_frame
  clear d2
  obtain ⟨r, hr⟩ : ∃ r, w3.heap.size = r := ⟨_, rfl⟩
  rw [hr] at hrg4 hb4 hlt4 ⊢
  have hgr : c.g < r := by rw [← hr]; exact lt_of_some HMD.out.cells
  have hT4 : Turn (fun b => b = c.dm) w3 w4 := Turn.of_below (by rw [hr]; exact hb4) _
  have HR3 := hide hr
  clear hr
  go_loopw [4] (fun _ wr => ∃ left cnt D, wr.ranges Tryz.prog 3 (unitElem (H := Unit)) c.dm r 16384 D left cnt ∧ Cutting D F n left ∧ Turn (fun b => b = c.dm) w3 wr) (fun _ wr => wr.rangeLeft c.dm r)
  case atStart => exact ⟨_, _, _, hrg4, Cutting.start hok n, hT4⟩
  case round =>
    clear hrg4 hb4 hlt4 hT4
    obtain ⟨left, cnt, D, hrg, hcut, ht⟩ := hrel
    have HR := hide hrg
    have HC := hide hcut
    have HT := hide ht
    clear hrg hcut ht
    go_wp2_with (first | (at_next; refine wpList_next_set _ rfl _ rfl D c.dm r 16384 left cnt (by rfl) HR.out ?_ ?_) | go_in)
    · intro hl0
      have hdn := HMD.out.done HT.out (HH.out.ok.trunc n) HR.out.owns (fun s => by
        rw [HC.out s, hl0]
        simp [AF.trunc])
      have HDN := hide hdn
      clear hdn
      go_wp2
      go_end0
      exact ⟨rfl, _, HDN.out⟩
    · intro si w5 cnt5 hh hwf hlk hrg5 hlt5 hg5 hen
      have hc5 := HC.out si
      rw [hh] at hc5
      have hc6 := hc5.symm
      simp only [Bool.and_eq_true, decide_eq_true_eq] at hc6
      obtain ⟨s, rfl⟩ : ∃ s : Nat, si = (s : Int) := ⟨si.toNat, by omega⟩
      rw [Int.toNat_natCast] at hc6
      have hs := AF.dirty_lt hok s hc6.2.1
      have hT5 : Turn (fun b => b = c.dm) w3 w5 := HT.out.trans (Turn.of_grown hg5) (fun b hb => by
        cases hb
        exact .inr (by rw [HR3.out]; exact Nat.le_refl _))
      have g1 : w5.heap[c.g]? = w3.heap[c.g]? := hT5.block c.g (lt_of_some HMD.out.cells) HMD.out.gd
      have c2 : w5.cell? ⟨c.g, 2, none⟩ = some (.map (some c.dm)) := by rw [World.cell?_of_block g1]; exact HMD.out.c2
      have H5 := hide hrg5
      have HT5 := hide hT5
      have HL5 := hide hlt5
      have HLK := hide hlk
      have HWF := hide hwf
      have hs64 : (s : Int) < 16384 := by omega
      clear hc5 hc6 hrg5 hT5 hlt5 hg5 g1 hh hlk hwf
      by_cases hge : 64 * s < n
      · have dge : decide ((n : Int) ≤ (s : Int) * 64) = false := decide_eq_false (by omega)
        go_wp2
        try go_frame
        go_roundw
        case rel => exact ⟨_, cnt5, D, H5.out, HC.out.stays hge, HT5.out⟩
        case measure => rw [H5.out.left_eq, HR.out.left_eq]; exact HL5.out
      · have dge : decide ((n : Int) ≤ (s : Int) * 64) = true := decide_eq_true (by omega)
        go_wp2_with (first | (at_delete; refine wpList_delete_ranges _ rfl _ _ 97 3 rfl 136 law3 Tryz.underlying97 _ c.dm r 16384 _ _ _ rfl H5.out _ _ rfl (keyOf_int_mk Tryz.underlying3 HWF.out) ?_; intro w6 cnt6 hrg6 hle6 hturn6; go_frame) | go_in)
        rw [Maps.strike_twice] at hrg6
        go_roundw
        case rel => exact ⟨_, cnt6, _, hrg6, HC.out.struck hge, HT5.out.trans (Turn.of_grown hturn6.grown) (fun b hb => .inl (by simpa using hb.symm))⟩
        case measure => rw [hrg6.left_eq, HR.out.left_eq]; have := HL5.out; omega
end Go.Proofs.YtlkimfmilccanaaGreat
