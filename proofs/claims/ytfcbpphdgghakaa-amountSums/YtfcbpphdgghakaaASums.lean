/-
  The walk of AmountSums.
-/
import Derived.Test.YtfcbpphdgghakaaAParts
import Derived.Deep.Upon
import Derived.Deep.AppendSrc
import Derived.Deep.QuietTactic
namespace Go.Proofs.Ytfcbpphdgghakaa
open Go.RowKit
set_option linter.unusedVariables false
theorem rsum_at (w : World) (ad : Option Addr) (n cap : Nat) (zs : List Int) (hn : zs.length = n) (h : RowI w ad zs) (hl : zs.length ≤ maxLen) :
    Calls Try.prog 15 #[.slice ad n cap] w fun e w' => e = .returned (.tuple #[.int .i64 (sumA zs).1, .int .i64 (sumA zs).2]) ∧ w' = w := by
  subst hn; exact rsum_any w ad cap zs h hl
theorem drewN_below {B : Nat} {w w1 : World} (h : Below B w w1) (n : Nat) : Below B w (w1.drewN n) := ⟨h.os, h.tape, h.output, h.size, h.block⟩
theorem run_append_zero (w : World) (g c : Nat) (ad : Option Addr) (ty : TypeId) : (Builtin.append_ #[27, 27] ty #[.slice (some ⟨g, 0, none⟩) 0 0, .slice ad 0 c]).run Try.prog w = .ok (.slice (some ⟨g, 0, none⟩) 0 0) w := by
  obtain ⟨i, hi, hz0, hz1, hz2⟩ := info_parts info2
  cases ad <;> simp [Builtin.append_, run_underlying Try.underlying27, sizeOf, typeInfo, hi, Builtin.lenOf, Builtin.firstCells, storeCells, loadCells, loadCellsFrom]
theorem wpRun {P : Program} {o : Oper} {a : Act} {w w' : World} {next : Act → World → Prop} {Q : Exit → Act → World → Prop} {v : Value} (h : (execOp a.eval o).run P w = .ok (.value v) w') (k : next (a.put o.dst v) w') : Oper.wp P o a w next Q := by
  unfold Oper.wp; rw [h]; exact k
theorem run_append_op {P : Program} {o : Oper} {f : Operand → Value} {w w' : World} {v : Value} (s x : Operand) (tys : Array TypeId) (ho : o.op = .call { callee := .builtin .append, args := #[s, x], argTypes := tys }) (h : (Builtin.append_ tys o.type #[f s, f x]).run P w = .ok v w') : (execOp f o).run P w = .ok (.value v) w' := by
  simp [execOp, ho, resolve, invoke, builtin, h, Result.andThen]
theorem wpList_appS {P : Program} {ops : Array Oper} {rest : List Oper} {o : Oper} {a : Act} {w w' : World} {Q : Exit → Act → World → Prop} {v : Value} (hg : o.guard = none) (s x : Operand) (tys : Array TypeId) (ho : o.op = .call { callee := .builtin .append, args := #[s, x], argTypes := tys }) (h : (Builtin.append_ tys o.type #[a.eval s, a.eval x]).run P w = .ok v w') (k : wpList P ops Q rest (a.put o.dst v) w') : wpList P ops Q (o :: rest) a w :=
  wpList_plain hg fun K hK => wpRun (run_append_op s x tys ho h) (hK _ _ k)
theorem IntsL.cap {w : World} {B g n cap : Nat} {l : List Int} (h : IntsL w B (.slice (some ⟨g, 0, none⟩) n cap) l) : n ≤ cap ∧ cap ≤ maxLen ∧ l.length = n := by
  rcases h.2 with ⟨hn, _⟩ | ⟨g', cap', cur, he, hb, hg, hnc, hcm, _⟩
  · cases hn
  · simp only [Value.slice.injEq, Option.some.injEq, Addr.mk.injEq, and_true] at he
    obtain ⟨_, rfl, rfl⟩ := he
    exact ⟨hnc, hcm, rfl⟩
theorem wpList_appL2 {ops : Array Oper} {rest : List Oper} {o : Oper} {a : Act} {w : World} {Q : Exit → Act → World → Prop} (hgd : o.guard = none) (s x : Operand)
    (ho : o.op = .call { callee := .builtin .append, args := #[s, x], argTypes := #[27, 27] }) (B g0 : Nat) (hs : a.eval s = .slice (some ⟨g0, 0, none⟩) 0 0) (hown : IntsL w B (.slice (some ⟨g0, 0, none⟩) 0 0) [])
    (ad : Option Addr) (cp : Nat) (l : List Int) (hx : a.eval x = .slice ad l.length cp) (hr : RowI w ad l) (hlen : l.length * 8 ≤ 140737488355328) (hB : B ≤ w.heap.size)
    (h : ∀ g cap w', IntsL w' B (.slice (some ⟨g, 0, none⟩) l.length cap) l → Below B w w' → wpList Try.prog ops Q rest (a.put o.dst (.slice (some ⟨g, 0, none⟩) l.length cap)) w') : wpList Try.prog ops Q (o :: rest) a w := by
  by_cases hne : l = []
  · subst hne
    refine wpList_appS hgd s x #[27, 27] ho (by rw [hs, hx]; exact run_append_zero w g0 cp ad _) (h g0 0 w hown (Below.refl _ _))
  · exact wpList_appL hgd s x ho B _ hs hown ad cp l hne hx hr hlen hB h
/-- What stands in the row behind k rounds. -/
def half (l : List Int) (k : Nat) : List Int := (l.take k).map (fun z => bits .xor .i64 z 1) ++ l.drop k
theorem half_zero (l : List Int) : half l 0 = l := by simp [half]
theorem half_all (l : List Int) : half l l.length = l.map (fun z => bits .xor .i64 z 1) := by simp [half]
theorem half_length (l : List Int) (k : Nat) (h : k ≤ l.length) : (half l k).length = l.length := by simp [half]; omega
theorem half_get {l : List Int} {k : Nat} (h : k < l.length) : (half l k)[k]? = some (l.getD k 0) := by
  unfold half
  rw [List.getElem?_append_right (by simp; omega)]
  simp [Nat.min_eq_left (Nat.le_of_lt h), h]
theorem half_step {l : List Int} {k : Nat} (h : k < l.length) : (half l k).set k (bits .xor .i64 (l.getD k 0) 1) = half l (k + 1) := by
  unfold half
  rw [List.set_append_right _ _ (by simp; omega)]
  have e : k - ((l.take k).map (fun z => bits .xor .i64 z 1)).length = 0 := by simp; omega
  rw [e, drop_getD h, List.set_cons_zero, List.take_succ_eq_append_getElem h, List.map_append, List.append_assoc, List.getD_eq_getElem?_getD, List.getElem?_eq_getElem h]
  rfl
theorem map_step {l : List Int} {k : Nat} (h : k < l.length) : (l.take (k + 1)).map (fun z => bits .xor .i64 z 1) = (l.take k).map (fun z => bits .xor .i64 z 1) ++ [bits .xor .i64 (l.getD k 0) 1] := by
  rw [List.take_succ_eq_append_getElem h, List.map_append, List.getD_eq_getElem?_getD, List.getElem?_eq_getElem h]
  rfl
set_option maxRecDepth 100000 in
set_option maxHeartbeats 2000000 in
theorem sums_any (a0 : Option Addr) (cap0 : Nat) (l : List Int) (w : World) (h0 : RowI w a0 l) (hl : l.length * 8 ≤ 140737488351232) :
    Calls Try.prog 6 #[.slice a0 l.length cap0] w fun e w' => e = .returned (.bool true) ∧ Below w.heap.size w w' := by
  have HR := hide h0
  clear h0
  go_enter Try.func6, Try.ntmps6
  go_wp2_with fail
  refine (first_any _).mono ?_
  rintro e w1 ⟨rfl, hb1⟩
  have HR1 := hide (HR.out.below hb1)
  have HB1 := hide hb1
  clear hb1
  have HO : Hid (IntsL (w1.alloc (.cells #[] 2)) w1.heap.size (.slice (some ⟨w1.heap.size, 0, none⟩) 0 0) []) := hide (World.ownsRow_lit w1 #[] 0 (Nat.le_refl _) (by decide) rfl)
  have HRA := hide (HR1.out.below (Below.alloc (Below.refl _ _) (Nat.le_refl _) (.cells #[] 2)))
  go_wp2_with (at_builtin; first | (refine wpList_appL2 rfl _ _ rfl w1.heap.size _ (by rfl) HO.out a0 cap0 l (by rfl) HRA.out (by omega) (by simp) ?_; intro g3 cap3 w3 hO3 hB3; have HO3 := hide hO3; have HB3 := hide hB3; clear hO3 hB3) | (refine wpList_app1 rfl _ _ rfl w1.heap.size _ l (-7) rfl HO3.out (by rfl) rfl (by omega) (by have := HB3.out.size; simp at this; omega) ?_; intro g4 cap4 w4 hO4 hB4; have hc4 := hO4.cap.1; have HO4 := hide hO4; have HB4 := hide hB4; clear hO4 hB4))
  have HRW := hide (HO4.out.row)
  have HML : Hid (l.length ≤ maxLen) := hide (by unfold maxLen; omega)
  have HB14 : Hid (Below w1.heap.size w1 w4) := hide ((Below.alloc (Below.refl _ _) (Nat.le_refl _) _).trans (HB3.out.trans HB4.out))
  have HR4 := hide (HR1.out.below HB14.out)
  have HOWN : Hid (RowI w4 (some ⟨g4, 0, none⟩) l) := hide (by
    obtain ⟨ad, cp, he, hr, _⟩ := HRW.out
    rw [List.length_append] at he
    cases he
    have := hr.take l.length
    rwa [List.take_left] at this)
  have f7 : w4.cell? ⟨g4, l.length, none⟩ = some (.int .i64 (-7)) := by
    have h := World.ownsRow.cellAt (by have := HO4.out; unfold IntsL at this; rw [HO4.out.cap.2.2] at this; exact this) l.length (by omega)
    rw [h]; simp [numV]
  have hq0 : (0 : Int) ≤ (l.length : Int) := by omega
  have hq1 : (l.length : Int) < (l.length : Int) + 1 := by omega
  refine (sum_at _ _ _ _ l rfl HOWN.out HML.out).mono ?_
  rintro e v ⟨rfl, rfl⟩
  go_wp2_with fail
  refine (rsum_at _ _ _ _ l rfl HR4.out HML.out).mono ?_
  rintro e v ⟨rfl, rfl⟩
  go_wp2_with fail
  have HG4 := hide ((HO4.out.block g4 rfl).2)
  clear f7 hq0 hq1
  go_loopw [9, 10] (fun t i wr => ∃ k : Nat, k ≤ l.length ∧ i = .int .i64 (k : Int) ∧ IntsL wr v.heap.size t ((l.take k).map (fun z => bits .xor .i64 z 1)) ∧ IntsL wr w1.heap.size (.slice (some ⟨g4, 0, none⟩) (l.length + 1) cap4) (half l k ++ [-7]) ∧ Below w1.heap.size w1 wr ∧ v.heap.size ≤ wr.heap.size) (fun t i _ => l.length - (intOf i).toNat)
  case atStart => exact ⟨0, by omega, rfl, IntsL.nil _ _, by rw [half_zero]; exact HO4.out, HB14.out, Nat.le_refl _⟩
  case round =>
    obtain ⟨k, hk, rfl, hown, hroom, hbr, hsz⟩ := hrel
    have HO := hide hown
    have HM := hide hroom
    have HB := hide hbr
    have HSZ := hide hsz
    clear hown hroom hbr hsz
    by_cases hlt : k < l.length
    · have dk : decide ((k : Int) < (l.length : Int)) = true := decide_eq_true (by omega)
      have hk0 : (0 : Int) ≤ (k : Int) := by omega
      have hk1 : (k : Int) < (l.length : Int) := by omega
      rcases HR1.out.below HB.out with h | ⟨x, rfl, hbl, hcs⟩
      · rw [h] at hlt; exact absurd hlt (by simp)
      have f0 := hcs k hlt
      have hrow := HM.out
      unfold IntsL at hrow
      rw [HM.out.cap.2.2] at hrow
      have f1 : wr.cell? ⟨g4, k, none⟩ = some (.int .i64 (l.getD k 0)) := by
        rw [World.ownsRow.cellAt hrow k (by omega), List.getElem?_map, List.getElem?_append_left (by rw [half_length _ _ hk]; exact hlt), half_get hlt]; rfl
      have f2 := World.ownsRow.frozenAt hrow k
      have HSTEP := hide (half_step hlt)
      have HMAP := hide (map_step hlt)
      obtain ⟨z, hz⟩ : ∃ z, l.getD k 0 = z := ⟨_, rfl⟩
      rw [hz] at f0 f1 HSTEP HMAP
      clear hcs hz hrow
      go_wp2
      go_quiet (fail)
      obtain ⟨wq, hwq⟩ : ∃ wq, wr.drewN nq = wq := ⟨_, rfl⟩
      rw [hwq]
      have hbq : Below wr.heap.size wr wq := by rw [← hwq]; exact drewN_below (Below.refl _ _) _
      have hMq := HM.out.below hbq
      have HOq := hide (HO.out.below hbq)
      have HBq := hide (HB.out.trans (hbq.mono HB.out.size))
      have HSq := hide (Nat.le_trans HSZ.out hbq.size)
      have hrow := hMq
      unfold IntsL at hrow
      rw [hMq.cap.2.2] at hrow
      have hbx : x.block < w1.heap.size := by
        rcases HR1.out with h | ⟨x', he, hb, _⟩
        · rw [h] at hlt; exact absurd hlt (by simp)
        · cases he; exact hb
      have g0 : wq.cell? (x.add k) = some (.int .i64 z) := by rw [World.cell?_of_block (w := wr) (by rw [addr_block]; exact hbq.block _ hbl)]; exact f0
      have g1 : wq.cell? ⟨g4, k, none⟩ = some (.int .i64 z) := by rw [World.cell?_of_block (w := wr) (hbq.block _ (HM.out.block g4 rfl).2)]; exact f1
      have g2 := World.ownsRow.frozenAt hrow k
      obtain ⟨hst, hgr⟩ := World.ownsRow.stored hrow k (numV (bits .xor .i64 z 1))
      obtain ⟨ws, hws⟩ : ∃ ws, wq.setCell ⟨g4, k, none⟩ (.int .i64 (bits .xor .i64 z 1)) = ws := ⟨_, rfl⟩
      have hnv : numV (bits .xor .i64 z 1) = .int .i64 (bits .xor .i64 z 1) := rfl
      rw [hnv, hws] at hst hgr
      have hge : w1.heap.size ≤ g4 := (hMq.block g4 rfl).1
      have g3' : ws.cell? (x.add k) = some (.int .i64 z) := by
        rw [World.cell?_of_block (w := wq) (by rw [addr_block]; exact hgr.block _ (Nat.lt_of_lt_of_le hbl hbq.size) (fun e => by cases e; omega))]; exact g0
      have HMs : Hid (IntsL ws w1.heap.size (.slice (some ⟨g4, 0, none⟩) (l.length + 1) cap4) (half l (k + 1) ++ [-7])) := hide (by
        unfold IntsL
        rw [List.length_append, half_length _ _ (by omega), ← HSTEP.out, List.map_append, List.map_set, ← List.set_append_left _ _ (by simp [half_length _ _ hk]; exact hlt), ← List.map_append]
        exact hst)
      have HOs := hide (HOq.out.same (w' := ws) (fun q hq => hgr.block q (HOq.out.block q hq).2 (fun e => by have h1 := (HOq.out.block q hq).1; have h2 := HG4.out; have h3 := Option.some.inj e; omega)))
      have hbs : Below w1.heap.size wq ws := grown_below hgr (fun q hq => by cases hq; exact hge) HBq.out.size
      have HBs := hide (HBq.out.trans hbs)
      have HSs := hide (Nat.le_trans HSq.out hbs.size)
      have HLN : Hid (((l.take k).map (fun z => bits .xor .i64 z 1)).length = k) := hide (by simp; omega)
      clear hst hgr hbs hnv hrow hMq hbq hwq f0 f1 f2 hbl hge hbx
      go_wp2_with (at_builtin; refine wpList_app1 rfl _ _ rfl v.heap.size _ ((l.take k).map (fun z => bits .xor .i64 z 1)) (bits .xor .i64 z 1) rfl HOs.out (by rfl) rfl (by rw [HLN.out]; omega) HSs.out ?_; intro g cap w2 hO2 hB2)
      rw [HLN.out, ← HMAP.out] at hO2
      have hM2 : IntsL w2 w1.heap.size (.slice (some ⟨g4, 0, none⟩) (l.length + 1) cap4) (half l (k + 1) ++ [-7]) := HMs.out.same (fun q hq => hB2.block q (by have h3 : g4 = q := (by simpa [Value.ownBlock] using hq); have h2 := HG4.out; omega))
      have hB3 := HBs.out.trans (hB2.mono HB14.out.size)
      have hS3 := Nat.le_trans HSs.out hB2.size
      go_roundw
      case rel => exact ⟨k + 1, by omega, by go_num, hO2, hM2, hB3, hS3⟩
      case measure => simp [intOf]; omega
    · have hkl : k = l.length := by omega
      subst hkl
      have dk : decide ((l.length : Int) < (l.length : Int)) = false := decide_eq_false (by omega)
      have hmr := HM.out
      rw [half_all] at hmr
      obtain ⟨ad, cp, he, hr, _⟩ := hmr.row
      rw [List.length_append, List.length_map] at he
      cases he
      have hr' := hr.take (l.map (fun z => bits .xor .i64 z 1)).length
      rw [List.take_left] at hr'
      have HRo := hide hr'
      have ho := HO.out
      rw [List.take_length] at ho
      obtain ⟨ad2, cap2, hv2, hr2, hm2⟩ := ho.row
      rw [List.length_map] at hv2
      subst hv2
      have HR2 := hide hr2
      have HLm : Hid ((l.map (fun z => bits .xor .i64 z 1)).length = l.length) := hide (by simp)
      have HMm := hide hm2
      have HW := hide (HB1.out.trans (HB.out.mono HB1.out.size))
      clear hr hr' hmr ho hr2 hm2 hk hlt
      go_wp2_with fail
      refine (sum_at _ _ _ _ (l.map (fun z => bits .xor .i64 z 1)) HLm.out HRo.out HMm.out).mono ?_
      rintro e u ⟨rfl, rfl⟩
      go_wp2_with fail
      refine (rsum_at _ _ _ _ (l.map (fun z => bits .xor .i64 z 1)) HLm.out HR2.out HMm.out).mono ?_
      rintro e u ⟨rfl, rfl⟩
      go_wp2
      go_ret
      exact ⟨by simp, HW.out⟩
theorem amountSums_walk (a0 : Option Addr) (n cap0 : Nat) (l : List Int) (w : World) (h0 : RowI w a0 l) (hn0 : l.length = n) (hl : n * 8 ≤ 140737488351232) (hc : n ≤ cap0) (hcm : cap0 ≤ maxLen) (hn : a0 = none → cap0 = 0) :
    Calls Try.prog 6 #[.slice a0 n cap0] w fun e w' => e = .returned (.bool true) ∧ Below w.heap.size w w' := by
  subst hn0; exact sums_any a0 cap0 l w h0 hl
end Go.Proofs.Ytfcbpphdgghakaa
