/-
  file.crash: the walk.
-/
import Derived.Test.YtlkimfmilccanaaGreatCrashF
namespace Go.Proofs.YtlkimfmilccanaaGreat
open Go.RowKit Go.Maps Go.WideMaps
set_option linter.unusedVariables false
set_option linter.unusedSimpArgs false
theorem after_make {w w1 w2 : World} {c : FC} {F : AF} {g2 L : Nat} (hf1 : FileAt w1 c F) (hg2 : w1.heap.size = g2) (hB2 : Bytes w2 0 (.slice (some ⟨w1.heap.size, 0, none⟩) L L) (List.replicate L 0)) (hb2 : Below w1.heap.size w1 w2) (hb1 : Below w.heap.size w w1) (hLS : F.safe.length ≤ L) :
    ∃ w3, (∀ ty, (Builtin.copy_ #[42, 42] ty #[.slice (some ⟨g2, 0, none⟩) L L, c.fv]).run Tryz.prog w2 = .ok (goInt F.safe.length) w3) ∧ FileAt w2 c F ∧ FileAt w3 c F ∧ Bytes w3 0 (.slice (some ⟨g2, 0, none⟩) L L) (F.safe ++ (List.replicate L 0).drop F.safe.length) ∧ Below w.heap.size w w3 ∧ g2 < w3.heap.size := by
  rw [hg2] at hB2
  have hf2 := hf1.later hb2
  obtain ⟨w3, hcp3, hB3, hg3⟩ := run_copy_bytes w2 hB2 (Piece.whole hB2) (by omega) hf2.safe (Piece.whole hf2.safe) (by omega)
  have hmin : Nat.min F.safe.length (List.replicate L (0 : UInt8)).length = F.safe.length := by rw [List.length_replicate]; exact Nat.min_eq_left hLS
  rw [hmin] at hcp3 hB3
  rw [List.take_zero, List.nil_append, List.drop_zero, List.take_length, Nat.zero_add] at hB3
  have hlt2 := hB2.lt g2 rfl
  have hs3 := hg3.size
  have hs1 := hb1.size
  refine ⟨w3, hcp3, hf2, hf2.same (fun b hb => hg3.block b (hf2.lt b hb) (fun e => ?_)), hB3, (hb1.trans (hb2.mono hs1)).grown hg3 (Nat.le_trans hs1 hb2.size) (fun j hj => ?_), by omega⟩
  · have h1 := hf1.lt b hb
    have : b = g2 := by simpa [Value.ownBlock] using e
    omega
  · have : g2 = j := by simpa [Value.ownBlock] using hj
    omega
set_option maxRecDepth 5000 in
set_option maxHeartbeats 2000000 in
theorem fcrash_any (w : World) (c : FC) (F : AF) (h : FileAt w c F) (mf nf : Nat) (D : DataW Unit) (ls : List FT) (k : Key) (ho : w.ownsMap Tryz.prog 3 fateElem mf nf D) (hm : FMap D ls k) :
    Calls Tryz.prog 49 #[.pointer (some ⟨c.g, 0, none⟩), .map (some mf)] w fun e w' => e = .returned (.tuple #[]) ∧ ∃ c', FileAt w' c' (F.crash (ftOf ls k)) ∧ FStep c c' w w' := by
  have HH := hide h
  have HO := hide ho
  have HM := hide hm
  have hok := h.ok
  have hmo := hok.most
  have hle := hok.le
  have hmk := @run_makeMap Tryz.prog
  have hcw := h.lt
  obtain ⟨L, hL⟩ : ∃ L, F.len (ftOf ls k) = L := ⟨_, rfl⟩
  have hLN : L ≤ F.seen.length := by rw [← hL]; exact AF.len_le hok _
  have hLS : F.safe.length ≤ L := by rw [← hL]; exact AF.len_ge F _
  have hcall := lenB_any w c F h mf nf D ls k ho hm
  rw [hL] at hcall
  obtain ⟨ad, cp, hv⟩ := h.seen.shape
  obtain ⟨ad1, cp1, hv1⟩ := h.safe.shape
  have HV := hide hv
  have HV1 := hide hv1
  have HL := hide hL
  have hms := ho.lt
  have HCW := hide hcw
  clear h ho hm hv hv1 hL hcw
  go_enter Tryz.func49, Tryz.ntmps49
  go_wp2_with fail
  refine hcall.mono ?_
  rintro e w1 ⟨rfl, hb1⟩
  have hf1 := HH.out.later hb1
  have HB1 := hide hb1
  have HF1 := hide hf1
  clear hcall hb1 hf1
  obtain ⟨g2, hg2⟩ : ∃ g2, w1.heap.size = g2 := ⟨_, rfl⟩
  have HG2 := hide hg2
  go_wp2_with (first
    | (refine wpList_make_zero rfl _ _ rfl L (by rfl) (by rfl) (by omega) ?_; intro w2 hB2 hb2; obtain ⟨w3, hcp3, hf2, hf3, hB3, hb3, hs3⟩ := after_make HF1.out HG2.out hB2 hb2 HB1.out hLS; have x1 := hf2.c1; rw [HV1.out] at x1 hcp3; have x2 := hf3.c2; have HF3 := hide hf3; have HB3 := hide hB3; have HBW3 := hide hb3; clear hf2 hf3 hB3 hb3 hB2 hb2)
    | (at_range; refine wpList_range_dirty _ rfl _ rfl F c.dm (by rfl) HF3.out.dirty ?_; intro w4 hrg4 hb4 hlt4)
    | go_in)
  try go_frame
  clear x1 x2 hcp3
  have hB3' := HB3.out
  have hst := crashNot_start hok (ftOf ls k)
  rw [HL.out] at hst
  rw [← hst] at hB3'
  clear hst
  obtain ⟨r, hr⟩ : ∃ r, w3.heap.size = r := ⟨_, rfl⟩
  rw [hr] at hrg4 hb4 hlt4 ⊢
  have hgr : g2 < r := by rw [← hr]; omega
  have hb4' : Below w3.heap.size w3 w4 := by rw [hr]; exact hb4
  have hB4 := hB3'.later hb4'
  have hf4 := HF3.out.later hb4'
  have hbw4 := HBW3.out.trans (hb4'.mono HBW3.out.size)
  have hwr0 : w.heap.size ≤ g2 := by rw [← HG2.out]; exact HB1.out.size
  have hcg : ∀ b, c.has b → b < g2 := fun b hb => Nat.lt_of_lt_of_le (HCW.out b hb) hwr0
  clear hB3' hr hb4 hb4'
  go_loopw [5] (fun _ wr => ∃ left cnt, wr.ranges Tryz.prog 3 (unitElem (H := Unit)) c.dm r 16384 (dirtyD F) left cnt ∧ FileAt wr c F ∧ Bytes wr 0 (.slice (some ⟨g2, 0, none⟩) L L) (crashNot F (ftOf ls k) left) ∧ Below w.heap.size w wr ∧ r < wr.heap.size) (fun _ wr => wr.rangeLeft c.dm r)
  case atStart => exact ⟨_, _, hrg4, hf4, hB4, hbw4, hlt4⟩
  case round =>
    clear hrg4 hf4 hB4 hbw4 hlt4
    obtain ⟨left, cnt, hrg, hf, hB, hbw, hrl⟩ := hrel
    have HR := hide hrg
    have HF := hide hf
    have HBL := hide hB
    have HBW := hide hbw
    clear hrg hf hB hbw
    go_wp2_with (first | (at_next; refine wpList_next_dirty _ rfl _ rfl F hok c.dm r 16384 left cnt (by rfl) HR.out ?_ ?_) | go_in)
    · intro hl0
      have hBe := HBL.out
      rw [crashNot_end hl0] at hBe
      have HBE := hide hBe
      clear hl0 hBe
      go_wp2_with fail
      refine (cloneB_any wr _ _ HBE.out (by rw [AF.left_length, HL.out]; omega)).mono ?_
      rintro e w5 ⟨v2, rfl, hBv, hov, hb5⟩
      have hf5 := HF.out.later hb5
      have hbw5 := HBW.out.trans (hb5.mono HBW.out.size)
      have hBl5 := HBE.out.later hb5
      have hokc := hok.crash (ftOf ls k)
      obtain ⟨c', hcg', hf', hs'⟩ := crash_file hf5 hbw5 HCW.out hBl5 (fun b hb => by cases hb; exact hwr0) hBv (fun b hb => Nat.le_trans HBW.out.size (hov b hb)) (fun b h1 h2 => by have := hov b h2; have := HBE.out.lt b h1; omega) hokc
      have x0 := hf5.c0
      have x1 := hf5.c1
      have x2 := hf5.c2
      have ea : (w5.alloc (.map #[] 0)).heap[c.g]? = w5.heap[c.g]? := Below.heap_alloc w5 _ c.g (lt_of_some hf5.cells)
      have y0 : (w5.alloc (.map #[] 0)).cell? ⟨c.g, 0, none⟩ = some c.sv := by rw [World.cell?_of_block ea]; exact x0
      have y1 : (w5.alloc (.map #[] 0)).cell? ⟨c.g, 1, none⟩ = some c.fv := by rw [World.cell?_of_block ea]; exact x1
      have y2 : (w5.alloc (.map #[] 0)).cell? ⟨c.g, 2, none⟩ = some (.map (some c.dm)) := by rw [World.cell?_of_block ea]; exact x2
      have z0 : (w5.alloc (.map #[] 0)).frozen? ⟨c.g, 0, none⟩ = false := by rw [World.frozen?_of_block ea]; exact hf5.fz 0
      have z1 : (w5.alloc (.map #[] 0)).frozen? ⟨c.g, 1, none⟩ = false := by rw [World.frozen?_of_block ea]; exact hf5.fz 1
      have z2 : (w5.alloc (.map #[] 0)).frozen? ⟨c.g, 2, none⟩ = false := by rw [World.frozen?_of_block ea]; exact hf5.fz 2
      obtain ⟨av, cv, hvv⟩ := hBv.shape
      obtain ⟨nv, hnv⟩ : ∃ nv, (F.left (ftOf ls k)).length = nv := ⟨_, rfl⟩
      rw [hnv] at hvv
      subst hvv
      rw [HV.out] at y0
      rw [HV1.out] at y1
      have HF' := hide hf'
      have HS' := hide hs'
      clear hf' hs' hBv hov hb5 hf5 hbw5 hBl5 hokc x0 x1 x2 ea hnv
      go_wp2
      go_end0
      exact ⟨rfl, c', HF'.out, HS'.out⟩
    · intro s w5 cnt5 hd hs hlk hrg5 hlt5 hg5 hen
      have hs5 := hg5.size
      have hrne : ∀ b, b < r → w5.heap[b]? = wr.heap[b]? := fun b hb => hg5.block b (by omega) (fun e => by cases e; omega)
      have hf5 := HF.out.same (w' := w5) (fun b hb => hrne b (by have := hcg b hb; omega))
      have hB5 := HBL.out.same (w' := w5) (fun b hb => hrne b (by cases hb; exact hgr))
      have hbw5 := HBW.out.grown hg5 HBW.out.size (fun j hj => by cases hj; omega)
      have ho5 := ownsMap_same HO.out (hbw5.block mf hms)
      have hl5 := (look_fate ho5 HM.out (s : Int) (wf_nat s (by omega))).2
      obtain ⟨y, hy⟩ : ∃ y, yOf ls k s = y := ⟨_, rfl⟩
      have HY := hide hy
      unfold yOf at hy
      rw [hy] at hl5
      simp only [FT.cs] at hl5
      obtain ⟨W6, hW6⟩ : ∃ W6, w5.alloc (.cells #[.string y.file, .int .i64 y.sector, .int .i64 y.kind, .string y.bytes] 140) = W6 := ⟨_, rfl⟩
      have hb6 : Below w5.heap.size w5 W6 := by rw [← hW6]; exact (Below.refl _ _).alloc (Nat.le_refl _) _
      have hf6 := hf5.later hb6
      have hB6 := hB5.later hb6
      have hbw6 := hbw5.trans (hb6.mono hbw5.size)
      have hrg6 : W6.ranges Tryz.prog 3 (unitElem (H := Unit)) c.dm r 16384 (dirtyD F) (fun z => left z && !z.sameKey (.int .i64 (s : Int))) cnt5 := ranges_same hrg5 (hb6.block c.dm hrg5.owns.lt) (hb6.block r hrg5.lt)
      have hc6 : W6.heap[w5.heap.size]? = some (.cells #[.string y.file, .int .i64 y.sector, .int .i64 y.kind, .string y.bytes] 140 (0, 0)) := by rw [← hW6]; exact heap_alloc_new w5 _
      have hr6 : r < W6.heap.size := Nat.lt_of_lt_of_le (by omega : r < w5.heap.size) hb6.size
      obtain ⟨u1, hp1, hca1⟩ := sector_any W6 _ _ hB6 s hs (by rw [crashNot_length, HL.out]; omega)
      obtain ⟨u2, hp2, hca2⟩ := sector_any W6 _ _ hf6.seen s hs (by omega)
      rw [crashNot_length, HL.out] at hp1
      rw [HV.out] at hca2
      have HF6 := hide hf6
      have HB6 := hide hB6
      have HBW6 := hide hbw6
      have HR6 := hide hrg6
      have HP1 := hide hp1
      have HP2 := hide hp2
      have HC1 := hide hca1
      have HC2 := hide hca2
      have HL5 := hide hlt5
      have HD := hide hd
      have HC6 := hide hc6
      have x0 := hf6.c0
      rw [HV.out] at x0
      have f2 : W6.cell? ⟨w5.heap.size, 2, none⟩ = some (.int .i64 y.kind) := by rw [cell_of_row W6 w5.heap.size 2 _ _ (0, 0) hc6]; rfl
      have f3 : W6.cell? ⟨w5.heap.size, 3, none⟩ = some (.string y.bytes) := by rw [cell_of_row W6 w5.heap.size 3 _ _ (0, 0) hc6]; rfl
      have hfr : sFrom s L + (sTo s L - sFrom s L) ≤ L := by have := sFromTo s L; have := sTo_le s L; omega
      have HFR := hide hfr
      have hnr : ∀ b, (Value.slice (some ⟨g2, 0, none⟩) L L).ownBlock = some b → b ≠ c.dm ∧ b ≠ r := fun b hb => by
        have e1 : g2 = b := by simpa [Value.ownBlock] using hb
        subst e1
        exact ⟨fun e => by have := hcg c.dm (.inr (.inl rfl)); omega, by omega⟩
      have HNR := hide hnr
      have hnf : ∀ b, c.has b → (Value.slice (some ⟨g2, 0, none⟩) L L).ownBlock ≠ some b := fun b hb e => by have e1 : g2 = b := (by simpa [Value.ownBlock] using e); have := hcg _ hb; omega
      have HNF := hide hnf
      clear hf5 hB5 hbw5 ho5 hb6 hf6 hB6 hbw6 hrg6 hc6 hp1 hp2 hca1 hca2 hlt5 hd hrg5 hy hlk hg5 hrne hfr hnr hnf
      by_cases h1 : y.kind = 1
      · have d1 : (y.kind == 1) = true := beq_iff_eq.2 h1
        have HK := hide h1
        clear h1
        go_wp2
        refine wp_region_drew_tail 9 (by kernel_rfl) (by kernel_rfl) ?_
        simp only [List.take_succ_cons, List.take_zero, List.drop_succ_cons, List.drop_zero]
        iterate 2 (go_big_quiet_step (fail))
        go_big_quiet_step ((go_at_call 83; exact Calls.quiet_of_same (HC1.out _)))
        iterate 5 (go_big_quiet_step (fail))
        go_big_quiet_step ((go_at_call 83; exact Calls.quiet_of_same (HC2.out _)))
        refine wpQuiet_nil ?_
        intro _ hw'
        obtain ⟨nq, rfl⟩ := hw'
        obtain ⟨w7, hcp7, hB7, hg7⟩ := run_copy_bytes (W6.drewN nq) (HB6.out.same (fun _ _ => rfl)) HP1.out (by rw [crashNot_length, HL.out]; exact HFR.out) (HF6.out.seen.same (w' := W6.drewN nq) (fun _ _ => rfl)) HP2.out (by have := sFromTo s F.seen.length; have := sTo_le s F.seen.length; omega)
        rw [kept_step hok HD.out (by rw [HY.out]; exact HK.out) HL.out rfl] at hB7
        refine wpList_run_copy rfl _ _ _ rfl _ w7 (hcp7 _) ?_
        have hrg7 := ranges_same (w' := w7) HR6.out (hg7.block c.dm HR6.out.owns.lt (fun e => (HNR.out c.dm e.symm).1 rfl)) (hg7.block r HR6.out.lt (fun e => (HNR.out r e.symm).2 rfl))
        have hf7 := HF6.out.same (w' := w7) (fun b hb => hg7.block b (HF6.out.lt b hb) (fun e => HNF.out b hb e.symm))
        have hbw7 := (HBW6.out.trans (below_drewN W6 nq |>.mono HBW6.out.size)).grown hg7 HBW6.out.size (fun j hj => by cases hj; exact hwr0)
        have hr7 : r < w7.heap.size := Nat.lt_of_lt_of_le hr6 hg7.size
        have H7 := hide hrg7
        have F7 := hide hf7
        have B7 := hide hB7
        have W7 := hide hbw7
        clear hrg7 hf7 hB7 hbw7 hg7 hcp7 x0 f2 f3 hen hl5
        go_wp2
        try go_frame
        go_roundw
        case rel => exact ⟨_, cnt5, H7.out, F7.out, B7.out, W7.out, hr7⟩
        case measure => rw [H7.out.left_eq, HR.out.left_eq]; exact HL5.out
      · have d1 : (y.kind == 1) = false := beq_eq_false_iff_ne.2 h1
        by_cases h2 : y.kind = 2
        · have d2 : (y.kind == 2) = true := beq_iff_eq.2 h2
          have HK := hide h2
          clear h1 h2
          obtain ⟨w7, hcl7, hB7, hg7⟩ := run_clear_piece W6 HB6.out HP1.out (by rw [crashNot_length, HL.out]; exact HFR.out)
          obtain ⟨l1, hl1⟩ : ∃ l1, l1 = (crashNot F (ftOf ls k) left).take (sFrom s L) ++ List.replicate (sTo s L - sFrom s L) 0 ++ (crashNot F (ftOf ls k) left).drop (sFrom s L + (sTo s L - sFrom s L)) := ⟨_, rfl⟩
          rw [← hl1] at hB7
          have hll : l1.length = L := by
            have h5 := crashNot_length F (ftOf ls k) left
            rw [HL.out] at h5
            have h6 := HFR.out
            rw [hl1, List.length_append, List.length_append, List.length_take, List.length_replicate, List.length_drop]
            omega
          obtain ⟨w8, hcp8, hB8, hg8⟩ := run_copy_str w7 hB7 HP1.out (by rw [hll]; exact HFR.out) y.bytes
          have hrs := repl_step (left := left) hok HD.out (by rw [HY.out]; exact HK.out) HL.out l1 hl1
          rw [HY.out] at hrs
          rw [hrs] at hB8
          have hf7 := HF6.out.same (w' := w7) (fun b hb => hg7.block b (HF6.out.lt b hb) (fun e => HNF.out b hb e.symm))
          have hf8 := hf7.same (w' := w8) (fun b hb => hg8.block b (hf7.lt b hb) (fun e => HNF.out b hb e.symm))
          have hrg8 := ranges_same (w' := w8) HR6.out ((hg8.block c.dm (Nat.lt_of_lt_of_le HR6.out.owns.lt hg7.size) (fun e => (HNR.out c.dm e.symm).1 rfl)).trans (hg7.block c.dm HR6.out.owns.lt (fun e => (HNR.out c.dm e.symm).1 rfl))) ((hg8.block r (Nat.lt_of_lt_of_le HR6.out.lt hg7.size) (fun e => (HNR.out r e.symm).2 rfl)).trans (hg7.block r HR6.out.lt (fun e => (HNR.out r e.symm).2 rfl)))
          have hbw8 := (HBW6.out.grown hg7 HBW6.out.size (fun j hj => by cases hj; exact hwr0)).grown hg8 (Nat.le_trans HBW6.out.size hg7.size) (fun j hj => by cases hj; exact hwr0)
          have hr8 : r < w8.heap.size := Nat.lt_of_lt_of_le hr6 (Nat.le_trans hg7.size hg8.size)
          have f37 : w7.cell? ⟨w5.heap.size, 3, none⟩ = some (.string y.bytes) := by
            have e2 := hg7.block w5.heap.size (lt_of_some HC6.out) (fun e => by
              have e1 : w5.heap.size = g2 := by simpa [Value.ownBlock] using e
              omega)
            rw [World.cell?_of_block e2]
            exact f3
          obtain ⟨au, cu, hu⟩ := HP1.out.shape
          obtain ⟨q, hq⟩ : ∃ q, sTo s L - sFrom s L = q := ⟨_, rfl⟩
          rw [hq] at hu
          subst hu
          have hcall := HC1.out W6
          have H8 := hide hrg8
          have F8 := hide hf8
          have B8 := hide hB8
          have W8 := hide hbw8
          clear hrg8 hf8 hf7 hB8 hB7 hbw8 hg7 hg8 hrs hll hl1 hq
          go_wp2_with fail
          refine hcall.mono ?_
          rintro e w9 ⟨rfl, rfl⟩
          go_wp2
          go_roundw
          case rel => exact ⟨_, cnt5, H8.out, F8.out, B8.out, W8.out, hr8⟩
          case measure => rw [H8.out.left_eq, HR.out.left_eq]; exact HL5.out
        · have d2 : (y.kind == 2) = false := beq_eq_false_iff_ne.2 h2
          have hsame := same_step (left := left) (F := F) (ft := ftOf ls k) (s := s) (fun i hi => after_lost HD.out hi (by rw [HY.out]; exact h1) (by rw [HY.out]; exact h2))
          have hB7 := HB6.out
          rw [← hsame] at hB7
          have B7 := hide hB7
          clear h1 h2 hsame hB7
          go_wp2
          go_roundw
          case rel => exact ⟨_, cnt5, HR6.out, HF6.out, B7.out, HBW6.out, hr6⟩
          case measure => rw [HR6.out.left_eq, HR.out.left_eq]; exact HL5.out
end Go.Proofs.YtlkimfmilccanaaGreat
