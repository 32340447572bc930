/-
  MsgUpdates: the walk (printed by gen_m8.py).
-/
import Derived.Test.YtfohdolhobooiaaMHelp
namespace Go.Proofs.Ytfohdolhobooiaa
open Go.RowKit S
set_option linter.unusedVariables false
set_option linter.unusedSimpArgs false
open Cu (nb be hl ofL CW Mw CR Mr RS takeS takeA hOf nil8 num doneS)
theorem validM_of {u : Upd} (hk : isU u.kind) : validM (ofU u) = validB u := by
  unfold validM
  rw [if_pos (show isU (ofU u).kind from hk), upd_ofU, eqM_refl, Bool.and_true]
theorem bytesM_of {u : Upd} (hk : isU u.kind) : bytesM (ofU u) = bytesU u := by
  unfold bytesM
  rw [if_pos (show isU (ofU u).kind from hk), upd_ofU]
theorem inv_of {m : Msg} (hk : isU m.kind) (h : eqM m (ofU m.upd) = false) : validM m = false := by
  unfold validM
  rw [if_pos hk, h, Bool.and_false]
theorem inv_idx (u : Upd) (hk : isU u.kind) (n : Int) (hn : n ≠ 0) : validM ⟨u.kind, u.id, u.amt, n, 0, u.hash, z32, u.note⟩ = false :=
  inv_of hk (by
    rw [Bool.eq_false_iff]
    intro h
    exact hn ((eqM_iff _ _).1 h).2.2.2.1)
theorem inv_nxt (u : Upd) (hk : isU u.kind) (n : Int) (hn : n ≠ 0) : validM ⟨u.kind, u.id, u.amt, 0, n, u.hash, z32, u.note⟩ = false :=
  inv_of hk (by
    rw [Bool.eq_false_iff]
    intro h
    exact hn ((eqM_iff _ _).1 h).2.2.2.2.1)
theorem inv_sec (u : Upd) (hk : isU u.kind) (h : Nat → UInt8) (hh : h 0 ≠ 0) : validM ⟨u.kind, u.id, u.amt, 0, 0, u.hash, h, u.note⟩ = false :=
  inv_of hk (by
    rw [Bool.eq_false_iff]
    intro e
    exact hh ((eqH_iff _ _).1 ((eqM_iff _ _).1 e).2.2.2.2.2.2.1 0 (by omega)))
theorem or_one : ∀ c : UInt8, bits .or .u8 (c.toNat : Int) 1 = ((c ||| 1).toNat : Int) ∧ (c ||| 1) ≠ 0 := by
  intro c
  have h : ∀ k : Fin 256, bits .or .u8 ((UInt8.ofNat k.val).toNat : Int) 1 = (((UInt8.ofNat k.val) ||| 1).toNat : Int) ∧ ((UInt8.ofNat k.val) ||| 1) ≠ 0 := by decide +kernel
  have e := h ⟨c.toNat, c.toNat_lt⟩
  rw [show UInt8.ofNat (⟨c.toNat, c.toNat_lt⟩ : Fin 256).val = c from UInt8.ofNat_toNat] at e
  exact e
/-- MsgUpdates' variables. -/
structure UV (w0 : World) (g3 g5 g7 : Nat) (u : Upd) (h : Nat → UInt8) (w : World) : Prop where
  ru : Has w g3 34 u.v 36
  rh : Has w g5 23 (bv h) 32
  rm : Has w g7 25 (ofU u).v 70
  bel : Below g3 w0 w
  ord : g3 < g5 ∧ g5 < g7
theorem UV.below {w0 : World} {g3 g5 g7 : Nat} {u : Upd} {h : Nat → UInt8} {w w' : World} (k : UV w0 g3 g5 g7 u h w) (hb : Below w.heap.size w w') : UV w0 g3 g5 g7 u h w' :=
  ⟨k.ru.below hb k.ru.lt, k.rh.below hb k.rh.lt, k.rm.below hb k.rm.lt, k.bel.trans (hb.mono (Nat.le_of_lt k.ru.lt)), k.ord⟩
theorem UV.byte {w0 : World} {g3 g5 g7 : Nat} {u : Upd} {h : Nat → UInt8} {w : World} (k : UV w0 g3 g5 g7 u h w) (c : UInt8) : UV w0 g3 g5 g7 u (upd h 0 c) (w.setCell ⟨g5, 0, none⟩ (.int .u8 (c.toNat : Int))) := by
  have ho := k.ord
  refine ⟨k.ru.other _ _ (by show g3 ≠ g5; omega), (k.rh.set 0 _).congr _ (fun i hi => ?_), k.rm.other _ _ (by show g7 ≠ g5; omega), k.bel.setCell (by show g3 ≤ g5; omega) _, ho⟩
  unfold upd bv
  by_cases e : i = 0
  · simp [e]
  · simp [e]
set_option maxRecDepth 100000 in
set_option maxHeartbeats 40000000 in
theorem mupd_no (u : Upd) (n : Int) (h : Nat → UInt8) (w : World) (hk : ¬isU u.kind) : Calls Try.prog 4 #[.agg (tabv u.v 36), .int .i64 n, .agg (tabv (bv h) 32)] w fun e w' => e = .returned (.bool true) ∧ Below w.heap.size w w' := by
  have HK : Hid (¬isU (ofU u).kind) := hk
  have hk2 : u.kind < 1 ∨ 3 < u.kind := by unfold isU at hk; omega
  have HK2 := hide hk2
  clear hk hk2
  obtain ⟨w1, hW1⟩ : ∃ wX, w.alloc (.cells (tabv u.v 36) 34) = wX := ⟨_, rfl⟩
  have r1 : Has w1 w.heap.size 34 u.v 36 := by rw [← hW1]; exact Has.new w 34 u.v 36 _ rfl
  have b1 : Below w.heap.size w w1 := by rw [← hW1]; exact (Below.refl w.heap.size w).alloc (Nat.le_refl _) _
  obtain ⟨w2, hW2⟩ : ∃ wX, w1.alloc (.cells (tabv (bv h) 32) 23) = wX := ⟨_, rfl⟩
  have r2 : Has w2 w1.heap.size 23 (bv h) 32 := by rw [← hW2]; exact Has.new w1 23 (bv h) 32 _ rfl
  have b2 : Below w1.heap.size w1 w2 := by rw [← hW2]; exact (Below.refl w1.heap.size w1).alloc (Nat.le_refl _) _
  have R1 := hide (r1.below b2 r1.lt)
  have R2 := hide r2
  have G2 : Hid (Below w.heap.size w w2) := b1.trans (b2.mono b1.size)
  have L12 : Hid (w.heap.size < w1.heap.size) := r1.lt
  clear r1 b1 r2 b2
  go_enter Try.func4, Try.ntmps4
  go_wp2_with fail
  refine (mhead_any _).mono ?_
  rintro e w3 ⟨rfl, hb⟩
  have R3 := hide (R1.out.below hb R1.out.lt)
  have H3 := hide (R2.out.below hb R2.out.lt)
  have G3 : Hid (Below w.heap.size w w3) := G2.out.trans (hb.mono G2.out.size)
  clear hb R1 R2 G2
  generalize hg0 : w.heap.size = g3 at R3 G3 L12 ⊢
  generalize w1.heap.size = g5 at H3 L12 ⊢
  clear hW1 hW2
  go_wp2_with (first | refine wpW_load_at 34 _ rfl (g3) (0) (by rfl) (by rfl) _ 36 _ (R3.out.at_ 0 (by omega) (fun i hi => by rw [Nat.zero_add])) Try.underlying34 rfl infoU ?_ | fail)
  refine (of_any u _).mono ?_
  rintro e w4 ⟨rfl, hb⟩
  obtain ⟨wn, w5, hWn, rn, hW5, r5, b5, _⟩ := newM w4 (ofU u)
  have RN := hide rn
  have bb : Below w3.heap.size w3 w5 := hb.trans (b5.mono hb.size)
  have K5 : Hid (UV w g3 g5 w4.heap.size u h w5) := ⟨R3.out.below bb R3.out.lt, H3.out.below bb H3.out.lt, r5, G3.out.trans (bb.mono (Nat.le_of_lt R3.out.lt)), L12.out, Nat.lt_of_lt_of_le H3.out.lt hb.size⟩
  clear rn r5 b5 hb bb R3 H3 G3 L12
  go_upto_region 4 with (first | refine wpList_storeM rfl _ _ rfl rfl (w4.heap.size) (ofU u) rfl rfl _ RN.out ?_ | fail)
  try rw [hW5]
  generalize w4.heap.size = g7 at K5 ⊢
  clear hWn hW5 RN
  go_wp2_with (first | refine wpW_load_at 25 _ rfl (g7) (0) (by rfl) (by rfl) _ 70 _ (K5.out.rm.at_ 0 (by omega) (fun i hi => by rw [Nat.zero_add])) Try.underlying25 rfl infoM ?_ | fail)
  refine (update_any_no (ofU u) HK.out _).mono ?_
  rintro e w6 ⟨rfl, hb⟩
  obtain ⟨wn, w7, hWn, rn, hW7, r7, b7, _⟩ := newU2 w6 Upd.zero
  have RN := hide rn
  have V7 := hide r7
  have K7 := hide ((K5.out.below hb).below b7)
  clear rn r7 b7 hb K5
  go_upto_region 5 with (first | refine wpList_storeU rfl _ _ rfl rfl (w6.heap.size) (Upd.zero) rfl rfl _ RN.out ?_ | fail)
  try rw [hW7]
  generalize w6.heap.size = g8 at V7 ⊢
  clear hWn hW7 RN
  have c0 : w7.cell? ⟨g3, 0, none⟩ = some (.int .i64 u.kind) := K7.out.ru.cell 0 (by omega)
  have WM := hide (mwrite_any (ofU u))
  have HV : Hid ((validM (ofU u) = true ∧ (4 ≤ u.kind ∧ u.kind ≤ 7)) ∨ validM (ofU u) = false) := by
    cases hv : validM (ofU u) with
    | false => exact .inr rfl
    | true =>
      rcases valid_forms hv with ⟨h1, _⟩ | ⟨h1, _⟩
      · exact absurd h1 HK.out
      · refine .inl ⟨rfl, ?_⟩
        rcases h1 with h1 | h1 | h1 | h1
        · have : u.kind = 4 := h1
          omega
        · have : u.kind = 5 := h1
          omega
        · have : u.kind = 6 := h1
          omega
        · have : u.kind = 7 := h1
          omega
  rcases HV.out with ⟨hv, h47⟩ | hv
  · rw [show wrS (ofU u) = ofL (bytesM (ofU u)) by unfold wrS; rw [if_pos hv], show wrE (ofU u) = 0 by unfold wrE; rw [if_pos hv]] at WM
    have hse : (ofL (bytesM (ofU u))).toList.isEmpty = false := empty_false (by rw [Cu.ofL_size]; exact (bytesM_len hv).1)
    generalize ofL (bytesM (ofU u)) = S at WM hse
    have d4 : decide (4 ≤ u.kind) = true := decide_eq_true h47.1
    have d7 : decide (u.kind ≤ 7) = true := decide_eq_true h47.2
    have d1 : decide (u.kind < 1) = false := decide_eq_false (by omega)
    have d2 : decide (3 < u.kind) = true := decide_eq_true (by omega)
    clear hv h47 HV HK HK2
    go_wp2_with (first | refine wpW_load_at 25 _ rfl (g7) (0) (by rfl) (by rfl) _ 70 _ (K7.out.rm.at_ 0 (by omega) (fun i hi => by rw [Nat.zero_add])) Try.underlying25 rfl infoM ?_ | fail)
    refine (WM.out _).mono ?_
    rintro e w8 ⟨rfl, hb⟩
    have K8 := hide (K7.out.below hb)
    have V8 := hide (V7.out.below hb V7.out.lt)
    have c0 : w8.cell? ⟨g3, 0, none⟩ = some (.int .i64 u.kind) := K8.out.ru.cell 0 (by omega)
    clear hb K7 V7
    go_wp2_with (first | refine wpW_load_at 34 _ rfl (g8) (0) (by rfl) (by rfl) _ 36 _ (V8.out.at_ 0 (by omega) (fun i hi => by rw [Nat.zero_add])) Try.underlying34 rfl infoU ?_ | refine wpW_build (by rfl) 34 #[] rfl [] (by first | rfl | (simp [Act.eval, Act.put]; done)) _ builtZ ?_ | refine wpW_eqUm (by rfl) (.tmp 47) (.tmp 48) rfl Upd.zero Upd.zero true (by rfl) (by rfl) (eqU_refl _) ?_ | fail)
    go_ret
    exact ⟨by first | rfl | simp, by first | exact K8.out.bel | (rw [hg0]; exact K8.out.bel)⟩
  · rw [show wrS (ofU u) = ⟨#[]⟩ by unfold wrS; rw [hv]; rfl, show wrE (ofU u) = 160 by unfold wrE; rw [hv]; rfl] at WM
    clear hv HV HK
    cases d4 : decide (4 ≤ u.kind) with
    | false =>
      rcases HK2.out with hl | hl
      · have d1 : decide (u.kind < 1) = true := decide_eq_true hl
        go_wp2_with (first | refine wpW_load_at 25 _ rfl (g7) (0) (by rfl) (by rfl) _ 70 _ (K7.out.rm.at_ 0 (by omega) (fun i hi => by rw [Nat.zero_add])) Try.underlying25 rfl infoM ?_ | fail)
        refine (WM.out _).mono ?_
        rintro e w8 ⟨rfl, hb⟩
        have K8 := hide (K7.out.below hb)
        have V8 := hide (V7.out.below hb V7.out.lt)
        have c0 : w8.cell? ⟨g3, 0, none⟩ = some (.int .i64 u.kind) := K8.out.ru.cell 0 (by omega)
        clear hb K7 V7
        go_wp2_with (first | refine wpW_load_at 34 _ rfl (g8) (0) (by rfl) (by rfl) _ 36 _ (V8.out.at_ 0 (by omega) (fun i hi => by rw [Nat.zero_add])) Try.underlying34 rfl infoU ?_ | refine wpW_build (by rfl) 34 #[] rfl [] (by first | rfl | (simp [Act.eval, Act.put]; done)) _ builtZ ?_ | refine wpW_eqUm (by rfl) (.tmp 47) (.tmp 48) rfl Upd.zero Upd.zero true (by rfl) (by rfl) (eqU_refl _) ?_ | fail)
        go_ret
        exact ⟨by first | rfl | simp, by first | exact K8.out.bel | (rw [hg0]; exact K8.out.bel)⟩
      · have d1 : decide (u.kind < 1) = false := decide_eq_false (by omega)
        have d2 : decide (3 < u.kind) = true := decide_eq_true hl
        go_wp2_with (first | refine wpW_load_at 25 _ rfl (g7) (0) (by rfl) (by rfl) _ 70 _ (K7.out.rm.at_ 0 (by omega) (fun i hi => by rw [Nat.zero_add])) Try.underlying25 rfl infoM ?_ | fail)
        refine (WM.out _).mono ?_
        rintro e w8 ⟨rfl, hb⟩
        have K8 := hide (K7.out.below hb)
        have V8 := hide (V7.out.below hb V7.out.lt)
        have c0 : w8.cell? ⟨g3, 0, none⟩ = some (.int .i64 u.kind) := K8.out.ru.cell 0 (by omega)
        clear hb K7 V7
        go_wp2_with (first | refine wpW_load_at 34 _ rfl (g8) (0) (by rfl) (by rfl) _ 36 _ (V8.out.at_ 0 (by omega) (fun i hi => by rw [Nat.zero_add])) Try.underlying34 rfl infoU ?_ | refine wpW_build (by rfl) 34 #[] rfl [] (by first | rfl | (simp [Act.eval, Act.put]; done)) _ builtZ ?_ | refine wpW_eqUm (by rfl) (.tmp 47) (.tmp 48) rfl Upd.zero Upd.zero true (by rfl) (by rfl) (eqU_refl _) ?_ | fail)
        go_ret
        exact ⟨by first | rfl | simp, by first | exact K8.out.bel | (rw [hg0]; exact K8.out.bel)⟩
    | true =>
      cases d7 : decide (u.kind ≤ 7) with
      | false =>
        have d1 : decide (u.kind < 1) = false := decide_eq_false (by have := of_decide_eq_true d4; omega)
        have d2 : decide (3 < u.kind) = true := decide_eq_true (by have := of_decide_eq_true d4; omega)
        clear HK2
        go_wp2_with (first | refine wpW_load_at 25 _ rfl (g7) (0) (by rfl) (by rfl) _ 70 _ (K7.out.rm.at_ 0 (by omega) (fun i hi => by rw [Nat.zero_add])) Try.underlying25 rfl infoM ?_ | fail)
        refine (WM.out _).mono ?_
        rintro e w8 ⟨rfl, hb⟩
        have K8 := hide (K7.out.below hb)
        have V8 := hide (V7.out.below hb V7.out.lt)
        have c0 : w8.cell? ⟨g3, 0, none⟩ = some (.int .i64 u.kind) := K8.out.ru.cell 0 (by omega)
        clear hb K7 V7
        go_wp2_with (first | refine wpW_load_at 34 _ rfl (g8) (0) (by rfl) (by rfl) _ 36 _ (V8.out.at_ 0 (by omega) (fun i hi => by rw [Nat.zero_add])) Try.underlying34 rfl infoU ?_ | refine wpW_build (by rfl) 34 #[] rfl [] (by first | rfl | (simp [Act.eval, Act.put]; done)) _ builtZ ?_ | refine wpW_eqUm (by rfl) (.tmp 47) (.tmp 48) rfl Upd.zero Upd.zero true (by rfl) (by rfl) (eqU_refl _) ?_ | fail)
        go_ret
        exact ⟨by first | rfl | simp, by first | exact K8.out.bel | (rw [hg0]; exact K8.out.bel)⟩
      | true =>
        have d1 : decide (u.kind < 1) = false := decide_eq_false (by have := of_decide_eq_true d4; omega)
        have d2 : decide (3 < u.kind) = true := decide_eq_true (by have := of_decide_eq_true d4; omega)
        clear HK2
        go_wp2_with (first | refine wpW_load_at 25 _ rfl (g7) (0) (by rfl) (by rfl) _ 70 _ (K7.out.rm.at_ 0 (by omega) (fun i hi => by rw [Nat.zero_add])) Try.underlying25 rfl infoM ?_ | fail)
        refine (WM.out _).mono ?_
        rintro e w8 ⟨rfl, hb⟩
        have K8 := hide (K7.out.below hb)
        have V8 := hide (V7.out.below hb V7.out.lt)
        have c0 : w8.cell? ⟨g3, 0, none⟩ = some (.int .i64 u.kind) := K8.out.ru.cell 0 (by omega)
        clear hb K7 V7
        go_wp2_with (first | refine wpW_load_at 34 _ rfl (g8) (0) (by rfl) (by rfl) _ 36 _ (V8.out.at_ 0 (by omega) (fun i hi => by rw [Nat.zero_add])) Try.underlying34 rfl infoU ?_ | refine wpW_build (by rfl) 34 #[] rfl [] (by first | rfl | (simp [Act.eval, Act.put]; done)) _ builtZ ?_ | refine wpW_eqUm (by rfl) (.tmp 47) (.tmp 48) rfl Upd.zero Upd.zero true (by rfl) (by rfl) (eqU_refl _) ?_ | fail)
        go_ret
        exact ⟨by first | rfl | simp, by first | exact K8.out.bel | (rw [hg0]; exact K8.out.bel)⟩
section
variable {ops : Array Oper} {rest : List Oper} {o : Oper} {a : Act} {w : World} {Q : Exit → Act → World → Prop}
theorem wpW_neUm (hw : Region.wanted o (yielded ops a.tmps) = true) (x y : Operand) (ho : o.op = .binOp .neq 34 x y 34) (s t : Upd) (R : Bool) (hx : a.eval x = .agg (tabv s.v 36)) (hy : a.eval y = .agg (tabv t.v 36)) (hq : eqU s t = R)
    (k : wpList Try.prog ops Q rest (a.put o.dst (.bool (!R))) w) : wpList Try.prog ops Q (o :: rest) a w := by
  refine wpList_step fun K hK => ?_
  rw [if_pos hw]
  exact wpRun (run_neUm w x y s t R ho hx hy hq) (hK _ _ k)
end
set_option maxRecDepth 100000 in
set_option maxHeartbeats 40000000 in
theorem mupd_yes (u : Upd) (n : Int) (h : Nat → UInt8) (w : World) (hk : isU u.kind) : Calls Try.prog 4 #[.agg (tabv u.v 36), .int .i64 n, .agg (tabv (bv h) 32)] w fun e w' => e = .returned (.bool true) ∧ Below w.heap.size w w' := by
  have HK : Hid (isU (ofU u).kind) := hk
  have d1 : decide (u.kind < 1) = false := decide_eq_false (by unfold isU at hk; omega)
  have d2 : decide (3 < u.kind) = false := decide_eq_false (by unfold isU at hk; omega)
  clear hk
  obtain ⟨w1, hW1⟩ : ∃ wX, w.alloc (.cells (tabv u.v 36) 34) = wX := ⟨_, rfl⟩
  have r1 : Has w1 w.heap.size 34 u.v 36 := by rw [← hW1]; exact Has.new w 34 u.v 36 _ rfl
  have b1 : Below w.heap.size w w1 := by rw [← hW1]; exact (Below.refl w.heap.size w).alloc (Nat.le_refl _) _
  obtain ⟨w2, hW2⟩ : ∃ wX, w1.alloc (.cells (tabv (bv h) 32) 23) = wX := ⟨_, rfl⟩
  have r2 : Has w2 w1.heap.size 23 (bv h) 32 := by rw [← hW2]; exact Has.new w1 23 (bv h) 32 _ rfl
  have b2 : Below w1.heap.size w1 w2 := by rw [← hW2]; exact (Below.refl w1.heap.size w1).alloc (Nat.le_refl _) _
  have R1 := hide (r1.below b2 r1.lt)
  have R2 := hide r2
  have G2 : Hid (Below w.heap.size w w2) := b1.trans (b2.mono b1.size)
  have L12 : Hid (w.heap.size < w1.heap.size) := r1.lt
  clear r1 b1 r2 b2
  go_enter Try.func4, Try.ntmps4
  go_wp2_with fail
  refine (mhead_any _).mono ?_
  rintro e w3 ⟨rfl, hb⟩
  have R3 := hide (R1.out.below hb R1.out.lt)
  have H3 := hide (R2.out.below hb R2.out.lt)
  have G3 : Hid (Below w.heap.size w w3) := G2.out.trans (hb.mono G2.out.size)
  clear hb R1 R2 G2
  generalize hg0 : w.heap.size = g3 at R3 G3 L12 ⊢
  generalize w1.heap.size = g5 at H3 L12 ⊢
  clear hW1 hW2
  go_wp2_with (first | refine wpW_load_at 34 _ rfl (g3) (0) (by rfl) (by rfl) _ 36 _ (R3.out.at_ 0 (by omega) (fun i hi => by rw [Nat.zero_add])) Try.underlying34 rfl infoU ?_ | fail)
  refine (of_any u _).mono ?_
  rintro e w4 ⟨rfl, hb⟩
  obtain ⟨wn, w5, hWn, rn, hW5, r5, b5, _⟩ := newM w4 (ofU u)
  have RN := hide rn
  have bb : Below w3.heap.size w3 w5 := hb.trans (b5.mono hb.size)
  have K5 : Hid (UV w g3 g5 w4.heap.size u h w5) := ⟨R3.out.below bb R3.out.lt, H3.out.below bb H3.out.lt, r5, G3.out.trans (bb.mono (Nat.le_of_lt R3.out.lt)), L12.out, Nat.lt_of_lt_of_le H3.out.lt hb.size⟩
  clear rn r5 b5 hb bb R3 H3 G3 L12
  go_upto_region 4 with (first | refine wpList_storeM rfl _ _ rfl rfl (w4.heap.size) (ofU u) rfl rfl _ RN.out ?_ | fail)
  try rw [hW5]
  generalize w4.heap.size = g7 at K5 ⊢
  clear hWn hW5 RN
  go_wp2_with (first | refine wpW_load_at 25 _ rfl (g7) (0) (by rfl) (by rfl) _ 70 _ (K5.out.rm.at_ 0 (by omega) (fun i hi => by rw [Nat.zero_add])) Try.underlying25 rfl infoM ?_ | fail)
  refine (update_any_yes (ofU u) HK.out _).mono ?_
  rintro e w6 ⟨rfl, hb⟩
  obtain ⟨wn, w7, hWn, rn, hW7, r7, b7, _⟩ := newU2 w6 u
  have RN := hide rn
  have V7 := hide r7
  have K7 := hide ((K5.out.below hb).below b7)
  clear rn r7 b7 hb K5
  go_upto_region 5 with (first | refine wpList_storeU rfl _ _ rfl rfl (w6.heap.size) (u) rfl rfl _ RN.out ?_ | fail)
  try rw [hW7]
  generalize w6.heap.size = g8 at V7 ⊢
  clear hWn hW7 RN
  have c0 : w7.cell? ⟨g3, 0, none⟩ = some (.int .i64 u.kind) := K7.out.ru.cell 0 (by omega)
  cases hv : validB u with
  | false =>
    have WM := hide (mwrite_any (ofU u))
    have WU := hide (write_any u)
    have VU := hide (fun w : World => valid_any u w)
    rw [hv] at VU
    rw [show writeE u = 120 by unfold writeE; rw [hv]; rfl, show writeS u = wrS (ofU u) by unfold writeS wrS; rw [validM_of HK.out, hv, bytesM_of HK.out]] at WU
    rw [show wrE (ofU u) = 160 by unfold wrE; rw [validM_of HK.out, hv]; rfl] at WM
    generalize wrS (ofU u) = S at WM WU
    have hss : (S.toList == S.toList) = true := beq_self_eq_true _
    clear hv
    go_wp2_with (first | refine wpW_load_at 25 _ rfl (g7) (0) (by rfl) (by rfl) _ 70 _ (K7.out.rm.at_ 0 (by omega) (fun i hi => by rw [Nat.zero_add])) Try.underlying25 rfl infoM ?_ | fail)
    refine (WM.out _).mono ?_
    rintro e w8 ⟨rfl, hb⟩
    have K8 := hide (K7.out.below hb)
    have V8 := hide (V7.out.below hb V7.out.lt)
    clear hb K7 V7 WM
    go_wp2_with (first | refine wpW_load_at 34 _ rfl (g3) (0) (by rfl) (by rfl) _ 36 _ (K8.out.ru.at_ 0 (by omega) (fun i hi => by rw [Nat.zero_add])) Try.underlying34 rfl infoU ?_ | fail)
    refine (WU.out _).mono ?_
    rintro e w9 ⟨rfl, hb⟩
    have K9 := hide (K8.out.below hb)
    have V9 := hide (V8.out.below hb V8.out.lt)
    clear hb K8 V8 WU
    go_wp2_with (first | refine wpW_load_at 34 _ rfl (g8) (0) (by rfl) (by rfl) _ 36 _ (V9.out.at_ 0 (by omega) (fun i hi => by rw [Nat.zero_add])) Try.underlying34 rfl infoU ?_ | refine wpW_load_at 34 _ rfl (g3) (0) (by rfl) (by rfl) _ 36 _ (K9.out.ru.at_ 0 (by omega) (fun i hi => by rw [Nat.zero_add])) Try.underlying34 rfl infoU ?_ | refine wpW_neUm (by rfl) (.tmp 85) (.tmp 86) rfl u u true (by rfl) (by rfl) (eqU_refl _) ?_ | fail)
    refine (VU.out _).mono ?_
    rintro e w10 ⟨rfl, hb⟩
    have K10 := hide (K9.out.below hb)
    clear hb K9 V9 VU
    go_upto_region 12 with fail
    clear hss
    by_cases hn : n = 0
    · subst hn
      have HN : Hid ((1 : Int) ≠ 0) := by show (1 : Int) ≠ 0; decide
      have cB : w10.cell? ⟨g5, 0, none⟩ = some (.int .u8 ((h 0).toNat : Int)) := K10.out.rh.cell 0 (by omega)
      have fB := K10.out.rh.frozen 0
      obtain ⟨wy, hWy⟩ : ∃ z, w10.setCell ⟨g5, 0, none⟩ (.int .u8 (bits .or .u8 ((h 0).toNat : Int) 1)) = z := ⟨_, rfl⟩
      have KY : Hid (UV w g3 g5 g7 u (upd h 0 (h 0 ||| 1)) wy) := by rw [← hWy, (or_one (h 0)).1]; exact K10.out.byte _
      have HH : Hid ((upd h 0 (h 0 ||| 1)) 0 ≠ 0) := by show _ ≠ _; unfold upd; rw [if_pos rfl]; exact (or_one (h 0)).2
      generalize upd h 0 (h 0 ||| 1) = h2 at KY HH
      clear K10
      go_upto_region 15 with fail
      try rw [hWy]
      clear cB fB hWy
      go_wp2
      go_loopw [16] (fun ix wr => ∃ i : Nat, i ≤ 3 ∧ ix = .int .i64 (i : Int) ∧ Hid (UV w g3 g5 g7 u h2 wr)) (fun ix _ => 3 - (intOf ix).toNat)
      case atStart => exact ⟨0, by omega, rfl, KY.out⟩
      case round =>
        obtain ⟨i, hi, rfl, KW⟩ := hrel
        clear KY
        have KW0 := KW
        have HLT : g3 < wr.heap.size ∧ g5 < wr.heap.size ∧ g7 < wr.heap.size := ⟨KW.out.ru.lt, KW.out.rh.lt, KW.out.rm.lt⟩
        rcases (show i = 0 ∨ i = 1 ∨ i = 2 ∨ i = 3 by omega) with rfl | rfl | rfl | rfl
        · clear hi
          simp only [Int.natCast_zero, Int.cast_ofNat_Int] at *
          obtain ⟨wa, wb, hWa, ra, hWb, rb, bb, _⟩ := newM wr (ofU u)
          have RA := hide ra
          have RB := hide rb
          have KB := hide (KW.out.below bb)
          clear ra rb bb KW
          obtain ⟨wc, hWc⟩ : ∃ z, wb.setCell ⟨wr.heap.size, 3, none⟩ (.int .i64 1) = z := ⟨_, rfl⟩
          have RC : Hid (Has wc wr.heap.size 25 (Msg.v ⟨u.kind, u.id, u.amt, 1, 0, u.hash, z32, u.note⟩) 70) := by rw [← hWc]; exact RB.out.setIdx 1
          have bc : Below wr.heap.size wb wc := by rw [← hWc]; exact (Below.refl wr.heap.size wb).setCell (show wr.heap.size ≤ (⟨wr.heap.size, 3, none⟩ : Addr).block from Nat.le_refl _) _
          have z1 : wb.cell? ⟨wr.heap.size, 3, none⟩ = some (.int .i64 0) := RB.out.cell 3 (by omega)
          have z2 := RB.out.frozen 3
          have hsz : wr.heap.size < wb.heap.size := RB.out.lt
          have KC : Hid (UV w g3 g5 g7 u h2 wc) := by
            have e3 := KB.out
            have q3 : g3 < wr.heap.size ∧ g5 < wr.heap.size ∧ g7 < wr.heap.size := HLT
            exact ⟨e3.ru.below bc q3.1, e3.rh.below bc q3.2.1, e3.rm.below bc q3.2.2, e3.bel.trans (bc.mono (Nat.le_of_lt q3.1)), e3.ord⟩
          clear bc hsz HLT
          go_upto_region 19 with (first | refine wpW_load_at 25 _ rfl (g7) (0) (by rfl) (by rfl) _ 70 _ (KW0.out.rm.at_ 0 (by omega) (fun i hi => by rw [Nat.zero_add])) Try.underlying25 rfl infoM ?_ | refine wpList_storeM rfl _ _ rfl rfl (wr.heap.size) (ofU u) rfl rfl _ RA.out ?_ | fail)
          try rw [hWb]
          go_upto_region 26 with (first | fail)
          try rw [hWc]
          generalize wr.heap.size = gx at RC ⊢
          clear hWa hWb hWc RA RB KB KW0 z1 z2
          go_wp2_with (first | refine wpW_load_at 25 _ rfl (gx) (0) (by rfl) (by rfl) _ 70 _ (RC.out.at_ 0 (by omega) (fun i hi => by rw [Nat.zero_add])) Try.underlying25 rfl infoM ?_ | fail)
          refine (update_any_yes ⟨u.kind, u.id, u.amt, 1, 0, u.hash, z32, u.note⟩ HK.out _).mono ?_
          rintro e wd ⟨rfl, hb⟩
          obtain ⟨wn, we, hWn, rn, hWe, re, be, _⟩ := newU2 wd u
          have RN := hide rn
          have VE := hide re
          have bb : Below wc.heap.size wc we := hb.trans (be.mono hb.size)
          have KE := hide (KC.out.below bb)
          have RE := hide (RC.out.below bb RC.out.lt)
          clear rn re be hb bb KC
          go_upto_region 27 with (first | refine wpList_storeU rfl _ _ rfl rfl (wd.heap.size) (u) rfl rfl _ RN.out ?_ | fail)
          try rw [hWe]
          generalize wd.heap.size = ge at VE ⊢
          clear hWn hWe RN RC
          have WX := hide (mwrite_any ⟨u.kind, u.id, u.amt, 1, 0, u.hash, z32, u.note⟩)
          rw [show wrS ⟨u.kind, u.id, u.amt, 1, 0, u.hash, z32, u.note⟩ = ⟨#[]⟩ by unfold wrS; rw [inv_idx u HK.out 1 HN.out]; rfl, show wrE ⟨u.kind, u.id, u.amt, 1, 0, u.hash, z32, u.note⟩ = 160 by unfold wrE; rw [inv_idx u HK.out 1 HN.out]; rfl] at WX
          go_wp2_with (first | refine wpW_load_at 25 _ rfl (gx) (0) (by rfl) (by rfl) _ 70 _ (RE.out.at_ 0 (by omega) (fun i hi => by rw [Nat.zero_add])) Try.underlying25 rfl infoM ?_ | fail)
          refine (WX.out _).mono ?_
          rintro e wf ⟨rfl, hb⟩
          have KF := hide (KE.out.below hb)
          have VF := hide (VE.out.below hb VE.out.lt)
          clear hb KE VE RE WX
          go_wp2_with (first | refine wpW_load_at 34 _ rfl (ge) (0) (by rfl) (by rfl) _ 36 _ (VF.out.at_ 0 (by omega) (fun i hi => by rw [Nat.zero_add])) Try.underlying34 rfl infoU ?_ | refine wpW_load_at 34 _ rfl (g3) (0) (by rfl) (by rfl) _ 36 _ (KF.out.ru.at_ 0 (by omega) (fun i hi => by rw [Nat.zero_add])) Try.underlying34 rfl infoU ?_ | refine wpW_neUm (by rfl) (.tmp 145) (.tmp 146) rfl u u true (by rfl) (by rfl) (eqU_refl _) ?_ | fail)
          go_roundw
          case rel => exact ⟨1, by omega, by go_num, KF.out⟩
          case measure => simp [intOf]
        · clear hi
          obtain ⟨wa, wb, hWa, ra, hWb, rb, bb, _⟩ := newM wr (ofU u)
          have RA := hide ra
          have RB := hide rb
          have KB := hide (KW.out.below bb)
          clear ra rb bb KW
          obtain ⟨wc, hWc⟩ : ∃ z, wb.setCell ⟨wr.heap.size, 4, none⟩ (.int .i64 1) = z := ⟨_, rfl⟩
          have RC : Hid (Has wc wr.heap.size 25 (Msg.v ⟨u.kind, u.id, u.amt, 0, 1, u.hash, z32, u.note⟩) 70) := by rw [← hWc]; exact RB.out.setNxt 1
          have bc : Below wr.heap.size wb wc := by rw [← hWc]; exact (Below.refl wr.heap.size wb).setCell (show wr.heap.size ≤ (⟨wr.heap.size, 4, none⟩ : Addr).block from Nat.le_refl _) _
          have z1 : wb.cell? ⟨wr.heap.size, 4, none⟩ = some (.int .i64 0) := RB.out.cell 4 (by omega)
          have z2 := RB.out.frozen 4
          have hsz : wr.heap.size < wb.heap.size := RB.out.lt
          have KC : Hid (UV w g3 g5 g7 u h2 wc) := by
            have e3 := KB.out
            have q3 : g3 < wr.heap.size ∧ g5 < wr.heap.size ∧ g7 < wr.heap.size := HLT
            exact ⟨e3.ru.below bc q3.1, e3.rh.below bc q3.2.1, e3.rm.below bc q3.2.2, e3.bel.trans (bc.mono (Nat.le_of_lt q3.1)), e3.ord⟩
          clear bc hsz HLT
          go_upto_region 19 with (first | refine wpW_load_at 25 _ rfl (g7) (0) (by rfl) (by rfl) _ 70 _ (KW0.out.rm.at_ 0 (by omega) (fun i hi => by rw [Nat.zero_add])) Try.underlying25 rfl infoM ?_ | refine wpList_storeM rfl _ _ rfl rfl (wr.heap.size) (ofU u) rfl rfl _ RA.out ?_ | fail)
          try rw [hWb]
          go_upto_region 26 with (first | fail)
          try rw [hWc]
          generalize wr.heap.size = gx at RC ⊢
          clear hWa hWb hWc RA RB KB KW0 z1 z2
          go_wp2_with (first | refine wpW_load_at 25 _ rfl (gx) (0) (by rfl) (by rfl) _ 70 _ (RC.out.at_ 0 (by omega) (fun i hi => by rw [Nat.zero_add])) Try.underlying25 rfl infoM ?_ | fail)
          refine (update_any_yes ⟨u.kind, u.id, u.amt, 0, 1, u.hash, z32, u.note⟩ HK.out _).mono ?_
          rintro e wd ⟨rfl, hb⟩
          obtain ⟨wn, we, hWn, rn, hWe, re, be, _⟩ := newU2 wd u
          have RN := hide rn
          have VE := hide re
          have bb : Below wc.heap.size wc we := hb.trans (be.mono hb.size)
          have KE := hide (KC.out.below bb)
          have RE := hide (RC.out.below bb RC.out.lt)
          clear rn re be hb bb KC
          go_upto_region 27 with (first | refine wpList_storeU rfl _ _ rfl rfl (wd.heap.size) (u) rfl rfl _ RN.out ?_ | fail)
          try rw [hWe]
          generalize wd.heap.size = ge at VE ⊢
          clear hWn hWe RN RC
          have WX := hide (mwrite_any ⟨u.kind, u.id, u.amt, 0, 1, u.hash, z32, u.note⟩)
          rw [show wrS ⟨u.kind, u.id, u.amt, 0, 1, u.hash, z32, u.note⟩ = ⟨#[]⟩ by unfold wrS; rw [inv_nxt u HK.out 1 HN.out]; rfl, show wrE ⟨u.kind, u.id, u.amt, 0, 1, u.hash, z32, u.note⟩ = 160 by unfold wrE; rw [inv_nxt u HK.out 1 HN.out]; rfl] at WX
          go_wp2_with (first | refine wpW_load_at 25 _ rfl (gx) (0) (by rfl) (by rfl) _ 70 _ (RE.out.at_ 0 (by omega) (fun i hi => by rw [Nat.zero_add])) Try.underlying25 rfl infoM ?_ | fail)
          refine (WX.out _).mono ?_
          rintro e wf ⟨rfl, hb⟩
          have KF := hide (KE.out.below hb)
          have VF := hide (VE.out.below hb VE.out.lt)
          clear hb KE VE RE WX
          go_wp2_with (first | refine wpW_load_at 34 _ rfl (ge) (0) (by rfl) (by rfl) _ 36 _ (VF.out.at_ 0 (by omega) (fun i hi => by rw [Nat.zero_add])) Try.underlying34 rfl infoU ?_ | refine wpW_load_at 34 _ rfl (g3) (0) (by rfl) (by rfl) _ 36 _ (KF.out.ru.at_ 0 (by omega) (fun i hi => by rw [Nat.zero_add])) Try.underlying34 rfl infoU ?_ | refine wpW_neUm (by rfl) (.tmp 145) (.tmp 146) rfl u u true (by rfl) (by rfl) (eqU_refl _) ?_ | fail)
          go_roundw
          case rel => exact ⟨2, by omega, by go_num, KF.out⟩
          case measure => simp [intOf]
        · clear hi
          obtain ⟨wa, wb, hWa, ra, hWb, rb, bb, _⟩ := newM wr (ofU u)
          have RA := hide ra
          have RB := hide rb
          have KB := hide (KW.out.below bb)
          clear ra rb bb KW
          obtain ⟨wc, hWc⟩ : ∃ z, wb.setRow wr.heap.size (tabv (Msg.v ⟨(ofU u).kind, (ofU u).id, (ofU u).amt, (ofU u).idx, (ofU u).nxt, (ofU u).hash, h2, (ofU u).note⟩) 70) = z := ⟨_, rfl⟩
          have RC : Hid (Has wc wr.heap.size 25 (Msg.v ⟨u.kind, u.id, u.amt, 0, 0, u.hash, h2, u.note⟩) 70) := by rw [← hWc]; exact RB.out.row _ _ rfl
          have bc : Below wr.heap.size wb wc := by rw [← hWc]; exact below_setRow (Below.refl _ _) (Nat.le_refl _) _
          have hsz : wr.heap.size < wb.heap.size := RB.out.lt
          have KC : Hid (UV w g3 g5 g7 u h2 wc) := by
            have e3 := KB.out
            have q3 : g3 < wr.heap.size ∧ g5 < wr.heap.size ∧ g7 < wr.heap.size := HLT
            exact ⟨e3.ru.below bc q3.1, e3.rh.below bc q3.2.1, e3.rm.below bc q3.2.2, e3.bel.trans (bc.mono (Nat.le_of_lt q3.1)), e3.ord⟩
          clear bc hsz HLT
          go_upto_region 19 with (first | refine wpW_load_at 25 _ rfl (g7) (0) (by rfl) (by rfl) _ 70 _ (KW0.out.rm.at_ 0 (by omega) (fun i hi => by rw [Nat.zero_add])) Try.underlying25 rfl infoM ?_ | refine wpList_storeM rfl _ _ rfl rfl (wr.heap.size) (ofU u) rfl rfl _ RA.out ?_ | fail)
          try rw [hWb]
          go_upto_region 26 with (first | refine wpW_load_at 23 _ rfl (g5) (0) (by rfl) (by rfl) _ 32 _ (KB.out.rh.at_ 0 (by omega) (fun i hi => by rw [Nat.zero_add])) Try.underlying23 rfl info26 ?_ | refine wpList_storeMS rfl _ _ rfl rfl wr.heap.size (ofU u) h2 rfl rfl RB.out ?_ | fail)
          try rw [hWc]
          generalize wr.heap.size = gx at RC ⊢
          clear hWa hWb hWc RA RB KB KW0
          go_wp2_with (first | refine wpW_load_at 25 _ rfl (gx) (0) (by rfl) (by rfl) _ 70 _ (RC.out.at_ 0 (by omega) (fun i hi => by rw [Nat.zero_add])) Try.underlying25 rfl infoM ?_ | fail)
          refine (update_any_yes ⟨u.kind, u.id, u.amt, 0, 0, u.hash, h2, u.note⟩ HK.out _).mono ?_
          rintro e wd ⟨rfl, hb⟩
          obtain ⟨wn, we, hWn, rn, hWe, re, be, _⟩ := newU2 wd u
          have RN := hide rn
          have VE := hide re
          have bb : Below wc.heap.size wc we := hb.trans (be.mono hb.size)
          have KE := hide (KC.out.below bb)
          have RE := hide (RC.out.below bb RC.out.lt)
          clear rn re be hb bb KC
          go_upto_region 27 with (first | refine wpList_storeU rfl _ _ rfl rfl (wd.heap.size) (u) rfl rfl _ RN.out ?_ | fail)
          try rw [hWe]
          generalize wd.heap.size = ge at VE ⊢
          clear hWn hWe RN RC
          have WX := hide (mwrite_any ⟨u.kind, u.id, u.amt, 0, 0, u.hash, h2, u.note⟩)
          rw [show wrS ⟨u.kind, u.id, u.amt, 0, 0, u.hash, h2, u.note⟩ = ⟨#[]⟩ by unfold wrS; rw [inv_sec u HK.out h2 HH.out]; rfl, show wrE ⟨u.kind, u.id, u.amt, 0, 0, u.hash, h2, u.note⟩ = 160 by unfold wrE; rw [inv_sec u HK.out h2 HH.out]; rfl] at WX
          go_wp2_with (first | refine wpW_load_at 25 _ rfl (gx) (0) (by rfl) (by rfl) _ 70 _ (RE.out.at_ 0 (by omega) (fun i hi => by rw [Nat.zero_add])) Try.underlying25 rfl infoM ?_ | fail)
          refine (WX.out _).mono ?_
          rintro e wf ⟨rfl, hb⟩
          have KF := hide (KE.out.below hb)
          have VF := hide (VE.out.below hb VE.out.lt)
          clear hb KE VE RE WX
          go_wp2_with (first | refine wpW_load_at 34 _ rfl (ge) (0) (by rfl) (by rfl) _ 36 _ (VF.out.at_ 0 (by omega) (fun i hi => by rw [Nat.zero_add])) Try.underlying34 rfl infoU ?_ | refine wpW_load_at 34 _ rfl (g3) (0) (by rfl) (by rfl) _ 36 _ (KF.out.ru.at_ 0 (by omega) (fun i hi => by rw [Nat.zero_add])) Try.underlying34 rfl infoU ?_ | refine wpW_neUm (by rfl) (.tmp 145) (.tmp 146) rfl u u true (by rfl) (by rfl) (eqU_refl _) ?_ | fail)
          go_roundw
          case rel => exact ⟨3, by omega, by go_num, KF.out⟩
          case measure => simp [intOf]
        · clear hi HLT KW0
          go_wp2
          go_ret
          exact ⟨rfl, by first | exact KW.out.bel | (rw [hg0]; exact KW.out.bel)⟩
    · have hnb : (n == 0) = false := beq_false_of_ne hn
      have HN : Hid (n ≠ 0) := hn
      clear hn
      have cB : w10.cell? ⟨g5, 0, none⟩ = some (.int .u8 ((h 0).toNat : Int)) := K10.out.rh.cell 0 (by omega)
      have fB := K10.out.rh.frozen 0
      obtain ⟨wy, hWy⟩ : ∃ z, w10.setCell ⟨g5, 0, none⟩ (.int .u8 (bits .or .u8 ((h 0).toNat : Int) 1)) = z := ⟨_, rfl⟩
      have KY : Hid (UV w g3 g5 g7 u (upd h 0 (h 0 ||| 1)) wy) := by rw [← hWy, (or_one (h 0)).1]; exact K10.out.byte _
      have HH : Hid ((upd h 0 (h 0 ||| 1)) 0 ≠ 0) := by show _ ≠ _; unfold upd; rw [if_pos rfl]; exact (or_one (h 0)).2
      generalize upd h 0 (h 0 ||| 1) = h2 at KY HH
      clear K10
      go_upto_region 15 with fail
      try rw [hWy]
      clear cB fB hWy
      go_wp2
      go_loopw [16] (fun ix wr => ∃ i : Nat, i ≤ 3 ∧ ix = .int .i64 (i : Int) ∧ Hid (UV w g3 g5 g7 u h2 wr)) (fun ix _ => 3 - (intOf ix).toNat)
      case atStart => exact ⟨0, by omega, rfl, KY.out⟩
      case round =>
        obtain ⟨i, hi, rfl, KW⟩ := hrel
        clear KY
        have KW0 := KW
        have HLT : g3 < wr.heap.size ∧ g5 < wr.heap.size ∧ g7 < wr.heap.size := ⟨KW.out.ru.lt, KW.out.rh.lt, KW.out.rm.lt⟩
        rcases (show i = 0 ∨ i = 1 ∨ i = 2 ∨ i = 3 by omega) with rfl | rfl | rfl | rfl
        · clear hi
          simp only [Int.natCast_zero, Int.cast_ofNat_Int] at *
          obtain ⟨wa, wb, hWa, ra, hWb, rb, bb, _⟩ := newM wr (ofU u)
          have RA := hide ra
          have RB := hide rb
          have KB := hide (KW.out.below bb)
          clear ra rb bb KW
          obtain ⟨wc, hWc⟩ : ∃ z, wb.setCell ⟨wr.heap.size, 3, none⟩ (.int .i64 n) = z := ⟨_, rfl⟩
          have RC : Hid (Has wc wr.heap.size 25 (Msg.v ⟨u.kind, u.id, u.amt, n, 0, u.hash, z32, u.note⟩) 70) := by rw [← hWc]; exact RB.out.setIdx n
          have bc : Below wr.heap.size wb wc := by rw [← hWc]; exact (Below.refl wr.heap.size wb).setCell (show wr.heap.size ≤ (⟨wr.heap.size, 3, none⟩ : Addr).block from Nat.le_refl _) _
          have z1 : wb.cell? ⟨wr.heap.size, 3, none⟩ = some (.int .i64 0) := RB.out.cell 3 (by omega)
          have z2 := RB.out.frozen 3
          have hsz : wr.heap.size < wb.heap.size := RB.out.lt
          have KC : Hid (UV w g3 g5 g7 u h2 wc) := by
            have e3 := KB.out
            have q3 : g3 < wr.heap.size ∧ g5 < wr.heap.size ∧ g7 < wr.heap.size := HLT
            exact ⟨e3.ru.below bc q3.1, e3.rh.below bc q3.2.1, e3.rm.below bc q3.2.2, e3.bel.trans (bc.mono (Nat.le_of_lt q3.1)), e3.ord⟩
          clear bc hsz HLT
          go_upto_region 19 with (first | refine wpW_load_at 25 _ rfl (g7) (0) (by rfl) (by rfl) _ 70 _ (KW0.out.rm.at_ 0 (by omega) (fun i hi => by rw [Nat.zero_add])) Try.underlying25 rfl infoM ?_ | refine wpList_storeM rfl _ _ rfl rfl (wr.heap.size) (ofU u) rfl rfl _ RA.out ?_ | fail)
          try rw [hWb]
          go_upto_region 26 with (first | fail)
          try rw [hWc]
          generalize wr.heap.size = gx at RC ⊢
          clear hWa hWb hWc RA RB KB KW0 z1 z2
          go_wp2_with (first | refine wpW_load_at 25 _ rfl (gx) (0) (by rfl) (by rfl) _ 70 _ (RC.out.at_ 0 (by omega) (fun i hi => by rw [Nat.zero_add])) Try.underlying25 rfl infoM ?_ | fail)
          refine (update_any_yes ⟨u.kind, u.id, u.amt, n, 0, u.hash, z32, u.note⟩ HK.out _).mono ?_
          rintro e wd ⟨rfl, hb⟩
          obtain ⟨wn, we, hWn, rn, hWe, re, be, _⟩ := newU2 wd u
          have RN := hide rn
          have VE := hide re
          have bb : Below wc.heap.size wc we := hb.trans (be.mono hb.size)
          have KE := hide (KC.out.below bb)
          have RE := hide (RC.out.below bb RC.out.lt)
          clear rn re be hb bb KC
          go_upto_region 27 with (first | refine wpList_storeU rfl _ _ rfl rfl (wd.heap.size) (u) rfl rfl _ RN.out ?_ | fail)
          try rw [hWe]
          generalize wd.heap.size = ge at VE ⊢
          clear hWn hWe RN RC
          have WX := hide (mwrite_any ⟨u.kind, u.id, u.amt, n, 0, u.hash, z32, u.note⟩)
          rw [show wrS ⟨u.kind, u.id, u.amt, n, 0, u.hash, z32, u.note⟩ = ⟨#[]⟩ by unfold wrS; rw [inv_idx u HK.out n HN.out]; rfl, show wrE ⟨u.kind, u.id, u.amt, n, 0, u.hash, z32, u.note⟩ = 160 by unfold wrE; rw [inv_idx u HK.out n HN.out]; rfl] at WX
          go_wp2_with (first | refine wpW_load_at 25 _ rfl (gx) (0) (by rfl) (by rfl) _ 70 _ (RE.out.at_ 0 (by omega) (fun i hi => by rw [Nat.zero_add])) Try.underlying25 rfl infoM ?_ | fail)
          refine (WX.out _).mono ?_
          rintro e wf ⟨rfl, hb⟩
          have KF := hide (KE.out.below hb)
          have VF := hide (VE.out.below hb VE.out.lt)
          clear hb KE VE RE WX
          go_wp2_with (first | refine wpW_load_at 34 _ rfl (ge) (0) (by rfl) (by rfl) _ 36 _ (VF.out.at_ 0 (by omega) (fun i hi => by rw [Nat.zero_add])) Try.underlying34 rfl infoU ?_ | refine wpW_load_at 34 _ rfl (g3) (0) (by rfl) (by rfl) _ 36 _ (KF.out.ru.at_ 0 (by omega) (fun i hi => by rw [Nat.zero_add])) Try.underlying34 rfl infoU ?_ | refine wpW_neUm (by rfl) (.tmp 145) (.tmp 146) rfl u u true (by rfl) (by rfl) (eqU_refl _) ?_ | fail)
          go_roundw
          case rel => exact ⟨1, by omega, by go_num, KF.out⟩
          case measure => simp [intOf]
        · clear hi
          obtain ⟨wa, wb, hWa, ra, hWb, rb, bb, _⟩ := newM wr (ofU u)
          have RA := hide ra
          have RB := hide rb
          have KB := hide (KW.out.below bb)
          clear ra rb bb KW
          obtain ⟨wc, hWc⟩ : ∃ z, wb.setCell ⟨wr.heap.size, 4, none⟩ (.int .i64 n) = z := ⟨_, rfl⟩
          have RC : Hid (Has wc wr.heap.size 25 (Msg.v ⟨u.kind, u.id, u.amt, 0, n, u.hash, z32, u.note⟩) 70) := by rw [← hWc]; exact RB.out.setNxt n
          have bc : Below wr.heap.size wb wc := by rw [← hWc]; exact (Below.refl wr.heap.size wb).setCell (show wr.heap.size ≤ (⟨wr.heap.size, 4, none⟩ : Addr).block from Nat.le_refl _) _
          have z1 : wb.cell? ⟨wr.heap.size, 4, none⟩ = some (.int .i64 0) := RB.out.cell 4 (by omega)
          have z2 := RB.out.frozen 4
          have hsz : wr.heap.size < wb.heap.size := RB.out.lt
          have KC : Hid (UV w g3 g5 g7 u h2 wc) := by
            have e3 := KB.out
            have q3 : g3 < wr.heap.size ∧ g5 < wr.heap.size ∧ g7 < wr.heap.size := HLT
            exact ⟨e3.ru.below bc q3.1, e3.rh.below bc q3.2.1, e3.rm.below bc q3.2.2, e3.bel.trans (bc.mono (Nat.le_of_lt q3.1)), e3.ord⟩
          clear bc hsz HLT
          go_upto_region 19 with (first | refine wpW_load_at 25 _ rfl (g7) (0) (by rfl) (by rfl) _ 70 _ (KW0.out.rm.at_ 0 (by omega) (fun i hi => by rw [Nat.zero_add])) Try.underlying25 rfl infoM ?_ | refine wpList_storeM rfl _ _ rfl rfl (wr.heap.size) (ofU u) rfl rfl _ RA.out ?_ | fail)
          try rw [hWb]
          go_upto_region 26 with (first | fail)
          try rw [hWc]
          generalize wr.heap.size = gx at RC ⊢
          clear hWa hWb hWc RA RB KB KW0 z1 z2
          go_wp2_with (first | refine wpW_load_at 25 _ rfl (gx) (0) (by rfl) (by rfl) _ 70 _ (RC.out.at_ 0 (by omega) (fun i hi => by rw [Nat.zero_add])) Try.underlying25 rfl infoM ?_ | fail)
          refine (update_any_yes ⟨u.kind, u.id, u.amt, 0, n, u.hash, z32, u.note⟩ HK.out _).mono ?_
          rintro e wd ⟨rfl, hb⟩
          obtain ⟨wn, we, hWn, rn, hWe, re, be, _⟩ := newU2 wd u
          have RN := hide rn
          have VE := hide re
          have bb : Below wc.heap.size wc we := hb.trans (be.mono hb.size)
          have KE := hide (KC.out.below bb)
          have RE := hide (RC.out.below bb RC.out.lt)
          clear rn re be hb bb KC
          go_upto_region 27 with (first | refine wpList_storeU rfl _ _ rfl rfl (wd.heap.size) (u) rfl rfl _ RN.out ?_ | fail)
          try rw [hWe]
          generalize wd.heap.size = ge at VE ⊢
          clear hWn hWe RN RC
          have WX := hide (mwrite_any ⟨u.kind, u.id, u.amt, 0, n, u.hash, z32, u.note⟩)
          rw [show wrS ⟨u.kind, u.id, u.amt, 0, n, u.hash, z32, u.note⟩ = ⟨#[]⟩ by unfold wrS; rw [inv_nxt u HK.out n HN.out]; rfl, show wrE ⟨u.kind, u.id, u.amt, 0, n, u.hash, z32, u.note⟩ = 160 by unfold wrE; rw [inv_nxt u HK.out n HN.out]; rfl] at WX
          go_wp2_with (first | refine wpW_load_at 25 _ rfl (gx) (0) (by rfl) (by rfl) _ 70 _ (RE.out.at_ 0 (by omega) (fun i hi => by rw [Nat.zero_add])) Try.underlying25 rfl infoM ?_ | fail)
          refine (WX.out _).mono ?_
          rintro e wf ⟨rfl, hb⟩
          have KF := hide (KE.out.below hb)
          have VF := hide (VE.out.below hb VE.out.lt)
          clear hb KE VE RE WX
          go_wp2_with (first | refine wpW_load_at 34 _ rfl (ge) (0) (by rfl) (by rfl) _ 36 _ (VF.out.at_ 0 (by omega) (fun i hi => by rw [Nat.zero_add])) Try.underlying34 rfl infoU ?_ | refine wpW_load_at 34 _ rfl (g3) (0) (by rfl) (by rfl) _ 36 _ (KF.out.ru.at_ 0 (by omega) (fun i hi => by rw [Nat.zero_add])) Try.underlying34 rfl infoU ?_ | refine wpW_neUm (by rfl) (.tmp 145) (.tmp 146) rfl u u true (by rfl) (by rfl) (eqU_refl _) ?_ | fail)
          go_roundw
          case rel => exact ⟨2, by omega, by go_num, KF.out⟩
          case measure => simp [intOf]
        · clear hi
          obtain ⟨wa, wb, hWa, ra, hWb, rb, bb, _⟩ := newM wr (ofU u)
          have RA := hide ra
          have RB := hide rb
          have KB := hide (KW.out.below bb)
          clear ra rb bb KW
          obtain ⟨wc, hWc⟩ : ∃ z, wb.setRow wr.heap.size (tabv (Msg.v ⟨(ofU u).kind, (ofU u).id, (ofU u).amt, (ofU u).idx, (ofU u).nxt, (ofU u).hash, h2, (ofU u).note⟩) 70) = z := ⟨_, rfl⟩
          have RC : Hid (Has wc wr.heap.size 25 (Msg.v ⟨u.kind, u.id, u.amt, 0, 0, u.hash, h2, u.note⟩) 70) := by rw [← hWc]; exact RB.out.row _ _ rfl
          have bc : Below wr.heap.size wb wc := by rw [← hWc]; exact below_setRow (Below.refl _ _) (Nat.le_refl _) _
          have hsz : wr.heap.size < wb.heap.size := RB.out.lt
          have KC : Hid (UV w g3 g5 g7 u h2 wc) := by
            have e3 := KB.out
            have q3 : g3 < wr.heap.size ∧ g5 < wr.heap.size ∧ g7 < wr.heap.size := HLT
            exact ⟨e3.ru.below bc q3.1, e3.rh.below bc q3.2.1, e3.rm.below bc q3.2.2, e3.bel.trans (bc.mono (Nat.le_of_lt q3.1)), e3.ord⟩
          clear bc hsz HLT
          go_upto_region 19 with (first | refine wpW_load_at 25 _ rfl (g7) (0) (by rfl) (by rfl) _ 70 _ (KW0.out.rm.at_ 0 (by omega) (fun i hi => by rw [Nat.zero_add])) Try.underlying25 rfl infoM ?_ | refine wpList_storeM rfl _ _ rfl rfl (wr.heap.size) (ofU u) rfl rfl _ RA.out ?_ | fail)
          try rw [hWb]
          go_upto_region 26 with (first | refine wpW_load_at 23 _ rfl (g5) (0) (by rfl) (by rfl) _ 32 _ (KB.out.rh.at_ 0 (by omega) (fun i hi => by rw [Nat.zero_add])) Try.underlying23 rfl info26 ?_ | refine wpList_storeMS rfl _ _ rfl rfl wr.heap.size (ofU u) h2 rfl rfl RB.out ?_ | fail)
          try rw [hWc]
          generalize wr.heap.size = gx at RC ⊢
          clear hWa hWb hWc RA RB KB KW0
          go_wp2_with (first | refine wpW_load_at 25 _ rfl (gx) (0) (by rfl) (by rfl) _ 70 _ (RC.out.at_ 0 (by omega) (fun i hi => by rw [Nat.zero_add])) Try.underlying25 rfl infoM ?_ | fail)
          refine (update_any_yes ⟨u.kind, u.id, u.amt, 0, 0, u.hash, h2, u.note⟩ HK.out _).mono ?_
          rintro e wd ⟨rfl, hb⟩
          obtain ⟨wn, we, hWn, rn, hWe, re, be, _⟩ := newU2 wd u
          have RN := hide rn
          have VE := hide re
          have bb : Below wc.heap.size wc we := hb.trans (be.mono hb.size)
          have KE := hide (KC.out.below bb)
          have RE := hide (RC.out.below bb RC.out.lt)
          clear rn re be hb bb KC
          go_upto_region 27 with (first | refine wpList_storeU rfl _ _ rfl rfl (wd.heap.size) (u) rfl rfl _ RN.out ?_ | fail)
          try rw [hWe]
          generalize wd.heap.size = ge at VE ⊢
          clear hWn hWe RN RC
          have WX := hide (mwrite_any ⟨u.kind, u.id, u.amt, 0, 0, u.hash, h2, u.note⟩)
          rw [show wrS ⟨u.kind, u.id, u.amt, 0, 0, u.hash, h2, u.note⟩ = ⟨#[]⟩ by unfold wrS; rw [inv_sec u HK.out h2 HH.out]; rfl, show wrE ⟨u.kind, u.id, u.amt, 0, 0, u.hash, h2, u.note⟩ = 160 by unfold wrE; rw [inv_sec u HK.out h2 HH.out]; rfl] at WX
          go_wp2_with (first | refine wpW_load_at 25 _ rfl (gx) (0) (by rfl) (by rfl) _ 70 _ (RE.out.at_ 0 (by omega) (fun i hi => by rw [Nat.zero_add])) Try.underlying25 rfl infoM ?_ | fail)
          refine (WX.out _).mono ?_
          rintro e wf ⟨rfl, hb⟩
          have KF := hide (KE.out.below hb)
          have VF := hide (VE.out.below hb VE.out.lt)
          clear hb KE VE RE WX
          go_wp2_with (first | refine wpW_load_at 34 _ rfl (ge) (0) (by rfl) (by rfl) _ 36 _ (VF.out.at_ 0 (by omega) (fun i hi => by rw [Nat.zero_add])) Try.underlying34 rfl infoU ?_ | refine wpW_load_at 34 _ rfl (g3) (0) (by rfl) (by rfl) _ 36 _ (KF.out.ru.at_ 0 (by omega) (fun i hi => by rw [Nat.zero_add])) Try.underlying34 rfl infoU ?_ | refine wpW_neUm (by rfl) (.tmp 145) (.tmp 146) rfl u u true (by rfl) (by rfl) (eqU_refl _) ?_ | fail)
          go_roundw
          case rel => exact ⟨3, by omega, by go_num, KF.out⟩
          case measure => simp [intOf]
        · clear hi HLT KW0
          go_wp2
          go_ret
          exact ⟨rfl, by first | exact KW.out.bel | (rw [hg0]; exact KW.out.bel)⟩
  | true =>
    have WM := hide (mwrite_any (ofU u))
    have WU := hide (write_any u)
    have VU := hide (fun w : World => valid_any u w)
    rw [hv] at VU
    rw [show writeE u = 0 by unfold writeE; rw [hv]; rfl, show writeS u = wrS (ofU u) by unfold writeS wrS; rw [validM_of HK.out, hv, bytesM_of HK.out]] at WU
    rw [show wrE (ofU u) = 0 by unfold wrE; rw [validM_of HK.out, hv]; rfl] at WM
    generalize wrS (ofU u) = S at WM WU
    have hss : (S.toList == S.toList) = true := beq_self_eq_true _
    clear hv
    go_wp2_with (first | refine wpW_load_at 25 _ rfl (g7) (0) (by rfl) (by rfl) _ 70 _ (K7.out.rm.at_ 0 (by omega) (fun i hi => by rw [Nat.zero_add])) Try.underlying25 rfl infoM ?_ | fail)
    refine (WM.out _).mono ?_
    rintro e w8 ⟨rfl, hb⟩
    have K8 := hide (K7.out.below hb)
    have V8 := hide (V7.out.below hb V7.out.lt)
    clear hb K7 V7 WM
    go_wp2_with (first | refine wpW_load_at 34 _ rfl (g3) (0) (by rfl) (by rfl) _ 36 _ (K8.out.ru.at_ 0 (by omega) (fun i hi => by rw [Nat.zero_add])) Try.underlying34 rfl infoU ?_ | fail)
    refine (WU.out _).mono ?_
    rintro e w9 ⟨rfl, hb⟩
    have K9 := hide (K8.out.below hb)
    have V9 := hide (V8.out.below hb V8.out.lt)
    clear hb K8 V8 WU
    go_wp2_with (first | refine wpW_load_at 34 _ rfl (g8) (0) (by rfl) (by rfl) _ 36 _ (V9.out.at_ 0 (by omega) (fun i hi => by rw [Nat.zero_add])) Try.underlying34 rfl infoU ?_ | refine wpW_load_at 34 _ rfl (g3) (0) (by rfl) (by rfl) _ 36 _ (K9.out.ru.at_ 0 (by omega) (fun i hi => by rw [Nat.zero_add])) Try.underlying34 rfl infoU ?_ | refine wpW_neUm (by rfl) (.tmp 85) (.tmp 86) rfl u u true (by rfl) (by rfl) (eqU_refl _) ?_ | fail)
    refine (VU.out _).mono ?_
    rintro e w10 ⟨rfl, hb⟩
    have K10 := hide (K9.out.below hb)
    clear hb K9 V9 VU
    go_upto_region 12 with fail
    clear hss
    by_cases hn : n = 0
    · subst hn
      have HN : Hid ((1 : Int) ≠ 0) := by show (1 : Int) ≠ 0; decide
      have cB : w10.cell? ⟨g5, 0, none⟩ = some (.int .u8 ((h 0).toNat : Int)) := K10.out.rh.cell 0 (by omega)
      have fB := K10.out.rh.frozen 0
      obtain ⟨wy, hWy⟩ : ∃ z, w10.setCell ⟨g5, 0, none⟩ (.int .u8 (bits .or .u8 ((h 0).toNat : Int) 1)) = z := ⟨_, rfl⟩
      have KY : Hid (UV w g3 g5 g7 u (upd h 0 (h 0 ||| 1)) wy) := by rw [← hWy, (or_one (h 0)).1]; exact K10.out.byte _
      have HH : Hid ((upd h 0 (h 0 ||| 1)) 0 ≠ 0) := by show _ ≠ _; unfold upd; rw [if_pos rfl]; exact (or_one (h 0)).2
      generalize upd h 0 (h 0 ||| 1) = h2 at KY HH
      clear K10
      go_upto_region 15 with fail
      try rw [hWy]
      clear cB fB hWy
      go_wp2
      go_loopw [16] (fun ix wr => ∃ i : Nat, i ≤ 3 ∧ ix = .int .i64 (i : Int) ∧ Hid (UV w g3 g5 g7 u h2 wr)) (fun ix _ => 3 - (intOf ix).toNat)
      case atStart => exact ⟨0, by omega, rfl, KY.out⟩
      case round =>
        obtain ⟨i, hi, rfl, KW⟩ := hrel
        clear KY
        have KW0 := KW
        have HLT : g3 < wr.heap.size ∧ g5 < wr.heap.size ∧ g7 < wr.heap.size := ⟨KW.out.ru.lt, KW.out.rh.lt, KW.out.rm.lt⟩
        rcases (show i = 0 ∨ i = 1 ∨ i = 2 ∨ i = 3 by omega) with rfl | rfl | rfl | rfl
        · clear hi
          simp only [Int.natCast_zero, Int.cast_ofNat_Int] at *
          obtain ⟨wa, wb, hWa, ra, hWb, rb, bb, _⟩ := newM wr (ofU u)
          have RA := hide ra
          have RB := hide rb
          have KB := hide (KW.out.below bb)
          clear ra rb bb KW
          obtain ⟨wc, hWc⟩ : ∃ z, wb.setCell ⟨wr.heap.size, 3, none⟩ (.int .i64 1) = z := ⟨_, rfl⟩
          have RC : Hid (Has wc wr.heap.size 25 (Msg.v ⟨u.kind, u.id, u.amt, 1, 0, u.hash, z32, u.note⟩) 70) := by rw [← hWc]; exact RB.out.setIdx 1
          have bc : Below wr.heap.size wb wc := by rw [← hWc]; exact (Below.refl wr.heap.size wb).setCell (show wr.heap.size ≤ (⟨wr.heap.size, 3, none⟩ : Addr).block from Nat.le_refl _) _
          have z1 : wb.cell? ⟨wr.heap.size, 3, none⟩ = some (.int .i64 0) := RB.out.cell 3 (by omega)
          have z2 := RB.out.frozen 3
          have hsz : wr.heap.size < wb.heap.size := RB.out.lt
          have KC : Hid (UV w g3 g5 g7 u h2 wc) := by
            have e3 := KB.out
            have q3 : g3 < wr.heap.size ∧ g5 < wr.heap.size ∧ g7 < wr.heap.size := HLT
            exact ⟨e3.ru.below bc q3.1, e3.rh.below bc q3.2.1, e3.rm.below bc q3.2.2, e3.bel.trans (bc.mono (Nat.le_of_lt q3.1)), e3.ord⟩
          clear bc hsz HLT
          go_upto_region 19 with (first | refine wpW_load_at 25 _ rfl (g7) (0) (by rfl) (by rfl) _ 70 _ (KW0.out.rm.at_ 0 (by omega) (fun i hi => by rw [Nat.zero_add])) Try.underlying25 rfl infoM ?_ | refine wpList_storeM rfl _ _ rfl rfl (wr.heap.size) (ofU u) rfl rfl _ RA.out ?_ | fail)
          try rw [hWb]
          go_upto_region 26 with (first | fail)
          try rw [hWc]
          generalize wr.heap.size = gx at RC ⊢
          clear hWa hWb hWc RA RB KB KW0 z1 z2
          go_wp2_with (first | refine wpW_load_at 25 _ rfl (gx) (0) (by rfl) (by rfl) _ 70 _ (RC.out.at_ 0 (by omega) (fun i hi => by rw [Nat.zero_add])) Try.underlying25 rfl infoM ?_ | fail)
          refine (update_any_yes ⟨u.kind, u.id, u.amt, 1, 0, u.hash, z32, u.note⟩ HK.out _).mono ?_
          rintro e wd ⟨rfl, hb⟩
          obtain ⟨wn, we, hWn, rn, hWe, re, be, _⟩ := newU2 wd u
          have RN := hide rn
          have VE := hide re
          have bb : Below wc.heap.size wc we := hb.trans (be.mono hb.size)
          have KE := hide (KC.out.below bb)
          have RE := hide (RC.out.below bb RC.out.lt)
          clear rn re be hb bb KC
          go_upto_region 27 with (first | refine wpList_storeU rfl _ _ rfl rfl (wd.heap.size) (u) rfl rfl _ RN.out ?_ | fail)
          try rw [hWe]
          generalize wd.heap.size = ge at VE ⊢
          clear hWn hWe RN RC
          have WX := hide (mwrite_any ⟨u.kind, u.id, u.amt, 1, 0, u.hash, z32, u.note⟩)
          rw [show wrS ⟨u.kind, u.id, u.amt, 1, 0, u.hash, z32, u.note⟩ = ⟨#[]⟩ by unfold wrS; rw [inv_idx u HK.out 1 HN.out]; rfl, show wrE ⟨u.kind, u.id, u.amt, 1, 0, u.hash, z32, u.note⟩ = 160 by unfold wrE; rw [inv_idx u HK.out 1 HN.out]; rfl] at WX
          go_wp2_with (first | refine wpW_load_at 25 _ rfl (gx) (0) (by rfl) (by rfl) _ 70 _ (RE.out.at_ 0 (by omega) (fun i hi => by rw [Nat.zero_add])) Try.underlying25 rfl infoM ?_ | fail)
          refine (WX.out _).mono ?_
          rintro e wf ⟨rfl, hb⟩
          have KF := hide (KE.out.below hb)
          have VF := hide (VE.out.below hb VE.out.lt)
          clear hb KE VE RE WX
          go_wp2_with (first | refine wpW_load_at 34 _ rfl (ge) (0) (by rfl) (by rfl) _ 36 _ (VF.out.at_ 0 (by omega) (fun i hi => by rw [Nat.zero_add])) Try.underlying34 rfl infoU ?_ | refine wpW_load_at 34 _ rfl (g3) (0) (by rfl) (by rfl) _ 36 _ (KF.out.ru.at_ 0 (by omega) (fun i hi => by rw [Nat.zero_add])) Try.underlying34 rfl infoU ?_ | refine wpW_neUm (by rfl) (.tmp 145) (.tmp 146) rfl u u true (by rfl) (by rfl) (eqU_refl _) ?_ | fail)
          go_roundw
          case rel => exact ⟨1, by omega, by go_num, KF.out⟩
          case measure => simp [intOf]
        · clear hi
          obtain ⟨wa, wb, hWa, ra, hWb, rb, bb, _⟩ := newM wr (ofU u)
          have RA := hide ra
          have RB := hide rb
          have KB := hide (KW.out.below bb)
          clear ra rb bb KW
          obtain ⟨wc, hWc⟩ : ∃ z, wb.setCell ⟨wr.heap.size, 4, none⟩ (.int .i64 1) = z := ⟨_, rfl⟩
          have RC : Hid (Has wc wr.heap.size 25 (Msg.v ⟨u.kind, u.id, u.amt, 0, 1, u.hash, z32, u.note⟩) 70) := by rw [← hWc]; exact RB.out.setNxt 1
          have bc : Below wr.heap.size wb wc := by rw [← hWc]; exact (Below.refl wr.heap.size wb).setCell (show wr.heap.size ≤ (⟨wr.heap.size, 4, none⟩ : Addr).block from Nat.le_refl _) _
          have z1 : wb.cell? ⟨wr.heap.size, 4, none⟩ = some (.int .i64 0) := RB.out.cell 4 (by omega)
          have z2 := RB.out.frozen 4
          have hsz : wr.heap.size < wb.heap.size := RB.out.lt
          have KC : Hid (UV w g3 g5 g7 u h2 wc) := by
            have e3 := KB.out
            have q3 : g3 < wr.heap.size ∧ g5 < wr.heap.size ∧ g7 < wr.heap.size := HLT
            exact ⟨e3.ru.below bc q3.1, e3.rh.below bc q3.2.1, e3.rm.below bc q3.2.2, e3.bel.trans (bc.mono (Nat.le_of_lt q3.1)), e3.ord⟩
          clear bc hsz HLT
          go_upto_region 19 with (first | refine wpW_load_at 25 _ rfl (g7) (0) (by rfl) (by rfl) _ 70 _ (KW0.out.rm.at_ 0 (by omega) (fun i hi => by rw [Nat.zero_add])) Try.underlying25 rfl infoM ?_ | refine wpList_storeM rfl _ _ rfl rfl (wr.heap.size) (ofU u) rfl rfl _ RA.out ?_ | fail)
          try rw [hWb]
          go_upto_region 26 with (first | fail)
          try rw [hWc]
          generalize wr.heap.size = gx at RC ⊢
          clear hWa hWb hWc RA RB KB KW0 z1 z2
          go_wp2_with (first | refine wpW_load_at 25 _ rfl (gx) (0) (by rfl) (by rfl) _ 70 _ (RC.out.at_ 0 (by omega) (fun i hi => by rw [Nat.zero_add])) Try.underlying25 rfl infoM ?_ | fail)
          refine (update_any_yes ⟨u.kind, u.id, u.amt, 0, 1, u.hash, z32, u.note⟩ HK.out _).mono ?_
          rintro e wd ⟨rfl, hb⟩
          obtain ⟨wn, we, hWn, rn, hWe, re, be, _⟩ := newU2 wd u
          have RN := hide rn
          have VE := hide re
          have bb : Below wc.heap.size wc we := hb.trans (be.mono hb.size)
          have KE := hide (KC.out.below bb)
          have RE := hide (RC.out.below bb RC.out.lt)
          clear rn re be hb bb KC
          go_upto_region 27 with (first | refine wpList_storeU rfl _ _ rfl rfl (wd.heap.size) (u) rfl rfl _ RN.out ?_ | fail)
          try rw [hWe]
          generalize wd.heap.size = ge at VE ⊢
          clear hWn hWe RN RC
          have WX := hide (mwrite_any ⟨u.kind, u.id, u.amt, 0, 1, u.hash, z32, u.note⟩)
          rw [show wrS ⟨u.kind, u.id, u.amt, 0, 1, u.hash, z32, u.note⟩ = ⟨#[]⟩ by unfold wrS; rw [inv_nxt u HK.out 1 HN.out]; rfl, show wrE ⟨u.kind, u.id, u.amt, 0, 1, u.hash, z32, u.note⟩ = 160 by unfold wrE; rw [inv_nxt u HK.out 1 HN.out]; rfl] at WX
          go_wp2_with (first | refine wpW_load_at 25 _ rfl (gx) (0) (by rfl) (by rfl) _ 70 _ (RE.out.at_ 0 (by omega) (fun i hi => by rw [Nat.zero_add])) Try.underlying25 rfl infoM ?_ | fail)
          refine (WX.out _).mono ?_
          rintro e wf ⟨rfl, hb⟩
          have KF := hide (KE.out.below hb)
          have VF := hide (VE.out.below hb VE.out.lt)
          clear hb KE VE RE WX
          go_wp2_with (first | refine wpW_load_at 34 _ rfl (ge) (0) (by rfl) (by rfl) _ 36 _ (VF.out.at_ 0 (by omega) (fun i hi => by rw [Nat.zero_add])) Try.underlying34 rfl infoU ?_ | refine wpW_load_at 34 _ rfl (g3) (0) (by rfl) (by rfl) _ 36 _ (KF.out.ru.at_ 0 (by omega) (fun i hi => by rw [Nat.zero_add])) Try.underlying34 rfl infoU ?_ | refine wpW_neUm (by rfl) (.tmp 145) (.tmp 146) rfl u u true (by rfl) (by rfl) (eqU_refl _) ?_ | fail)
          go_roundw
          case rel => exact ⟨2, by omega, by go_num, KF.out⟩
          case measure => simp [intOf]
        · clear hi
          obtain ⟨wa, wb, hWa, ra, hWb, rb, bb, _⟩ := newM wr (ofU u)
          have RA := hide ra
          have RB := hide rb
          have KB := hide (KW.out.below bb)
          clear ra rb bb KW
          obtain ⟨wc, hWc⟩ : ∃ z, wb.setRow wr.heap.size (tabv (Msg.v ⟨(ofU u).kind, (ofU u).id, (ofU u).amt, (ofU u).idx, (ofU u).nxt, (ofU u).hash, h2, (ofU u).note⟩) 70) = z := ⟨_, rfl⟩
          have RC : Hid (Has wc wr.heap.size 25 (Msg.v ⟨u.kind, u.id, u.amt, 0, 0, u.hash, h2, u.note⟩) 70) := by rw [← hWc]; exact RB.out.row _ _ rfl
          have bc : Below wr.heap.size wb wc := by rw [← hWc]; exact below_setRow (Below.refl _ _) (Nat.le_refl _) _
          have hsz : wr.heap.size < wb.heap.size := RB.out.lt
          have KC : Hid (UV w g3 g5 g7 u h2 wc) := by
            have e3 := KB.out
            have q3 : g3 < wr.heap.size ∧ g5 < wr.heap.size ∧ g7 < wr.heap.size := HLT
            exact ⟨e3.ru.below bc q3.1, e3.rh.below bc q3.2.1, e3.rm.below bc q3.2.2, e3.bel.trans (bc.mono (Nat.le_of_lt q3.1)), e3.ord⟩
          clear bc hsz HLT
          go_upto_region 19 with (first | refine wpW_load_at 25 _ rfl (g7) (0) (by rfl) (by rfl) _ 70 _ (KW0.out.rm.at_ 0 (by omega) (fun i hi => by rw [Nat.zero_add])) Try.underlying25 rfl infoM ?_ | refine wpList_storeM rfl _ _ rfl rfl (wr.heap.size) (ofU u) rfl rfl _ RA.out ?_ | fail)
          try rw [hWb]
          go_upto_region 26 with (first | refine wpW_load_at 23 _ rfl (g5) (0) (by rfl) (by rfl) _ 32 _ (KB.out.rh.at_ 0 (by omega) (fun i hi => by rw [Nat.zero_add])) Try.underlying23 rfl info26 ?_ | refine wpList_storeMS rfl _ _ rfl rfl wr.heap.size (ofU u) h2 rfl rfl RB.out ?_ | fail)
          try rw [hWc]
          generalize wr.heap.size = gx at RC ⊢
          clear hWa hWb hWc RA RB KB KW0
          go_wp2_with (first | refine wpW_load_at 25 _ rfl (gx) (0) (by rfl) (by rfl) _ 70 _ (RC.out.at_ 0 (by omega) (fun i hi => by rw [Nat.zero_add])) Try.underlying25 rfl infoM ?_ | fail)
          refine (update_any_yes ⟨u.kind, u.id, u.amt, 0, 0, u.hash, h2, u.note⟩ HK.out _).mono ?_
          rintro e wd ⟨rfl, hb⟩
          obtain ⟨wn, we, hWn, rn, hWe, re, be, _⟩ := newU2 wd u
          have RN := hide rn
          have VE := hide re
          have bb : Below wc.heap.size wc we := hb.trans (be.mono hb.size)
          have KE := hide (KC.out.below bb)
          have RE := hide (RC.out.below bb RC.out.lt)
          clear rn re be hb bb KC
          go_upto_region 27 with (first | refine wpList_storeU rfl _ _ rfl rfl (wd.heap.size) (u) rfl rfl _ RN.out ?_ | fail)
          try rw [hWe]
          generalize wd.heap.size = ge at VE ⊢
          clear hWn hWe RN RC
          have WX := hide (mwrite_any ⟨u.kind, u.id, u.amt, 0, 0, u.hash, h2, u.note⟩)
          rw [show wrS ⟨u.kind, u.id, u.amt, 0, 0, u.hash, h2, u.note⟩ = ⟨#[]⟩ by unfold wrS; rw [inv_sec u HK.out h2 HH.out]; rfl, show wrE ⟨u.kind, u.id, u.amt, 0, 0, u.hash, h2, u.note⟩ = 160 by unfold wrE; rw [inv_sec u HK.out h2 HH.out]; rfl] at WX
          go_wp2_with (first | refine wpW_load_at 25 _ rfl (gx) (0) (by rfl) (by rfl) _ 70 _ (RE.out.at_ 0 (by omega) (fun i hi => by rw [Nat.zero_add])) Try.underlying25 rfl infoM ?_ | fail)
          refine (WX.out _).mono ?_
          rintro e wf ⟨rfl, hb⟩
          have KF := hide (KE.out.below hb)
          have VF := hide (VE.out.below hb VE.out.lt)
          clear hb KE VE RE WX
          go_wp2_with (first | refine wpW_load_at 34 _ rfl (ge) (0) (by rfl) (by rfl) _ 36 _ (VF.out.at_ 0 (by omega) (fun i hi => by rw [Nat.zero_add])) Try.underlying34 rfl infoU ?_ | refine wpW_load_at 34 _ rfl (g3) (0) (by rfl) (by rfl) _ 36 _ (KF.out.ru.at_ 0 (by omega) (fun i hi => by rw [Nat.zero_add])) Try.underlying34 rfl infoU ?_ | refine wpW_neUm (by rfl) (.tmp 145) (.tmp 146) rfl u u true (by rfl) (by rfl) (eqU_refl _) ?_ | fail)
          go_roundw
          case rel => exact ⟨3, by omega, by go_num, KF.out⟩
          case measure => simp [intOf]
        · clear hi HLT KW0
          go_wp2
          go_ret
          exact ⟨rfl, by first | exact KW.out.bel | (rw [hg0]; exact KW.out.bel)⟩
    · have hnb : (n == 0) = false := beq_false_of_ne hn
      have HN : Hid (n ≠ 0) := hn
      clear hn
      have cB : w10.cell? ⟨g5, 0, none⟩ = some (.int .u8 ((h 0).toNat : Int)) := K10.out.rh.cell 0 (by omega)
      have fB := K10.out.rh.frozen 0
      obtain ⟨wy, hWy⟩ : ∃ z, w10.setCell ⟨g5, 0, none⟩ (.int .u8 (bits .or .u8 ((h 0).toNat : Int) 1)) = z := ⟨_, rfl⟩
      have KY : Hid (UV w g3 g5 g7 u (upd h 0 (h 0 ||| 1)) wy) := by rw [← hWy, (or_one (h 0)).1]; exact K10.out.byte _
      have HH : Hid ((upd h 0 (h 0 ||| 1)) 0 ≠ 0) := by show _ ≠ _; unfold upd; rw [if_pos rfl]; exact (or_one (h 0)).2
      generalize upd h 0 (h 0 ||| 1) = h2 at KY HH
      clear K10
      go_upto_region 15 with fail
      try rw [hWy]
      clear cB fB hWy
      go_wp2
      go_loopw [16] (fun ix wr => ∃ i : Nat, i ≤ 3 ∧ ix = .int .i64 (i : Int) ∧ Hid (UV w g3 g5 g7 u h2 wr)) (fun ix _ => 3 - (intOf ix).toNat)
      case atStart => exact ⟨0, by omega, rfl, KY.out⟩
      case round =>
        obtain ⟨i, hi, rfl, KW⟩ := hrel
        clear KY
        have KW0 := KW
        have HLT : g3 < wr.heap.size ∧ g5 < wr.heap.size ∧ g7 < wr.heap.size := ⟨KW.out.ru.lt, KW.out.rh.lt, KW.out.rm.lt⟩
        rcases (show i = 0 ∨ i = 1 ∨ i = 2 ∨ i = 3 by omega) with rfl | rfl | rfl | rfl
        · clear hi
          simp only [Int.natCast_zero, Int.cast_ofNat_Int] at *
          obtain ⟨wa, wb, hWa, ra, hWb, rb, bb, _⟩ := newM wr (ofU u)
          have RA := hide ra
          have RB := hide rb
          have KB := hide (KW.out.below bb)
          clear ra rb bb KW
          obtain ⟨wc, hWc⟩ : ∃ z, wb.setCell ⟨wr.heap.size, 3, none⟩ (.int .i64 n) = z := ⟨_, rfl⟩
          have RC : Hid (Has wc wr.heap.size 25 (Msg.v ⟨u.kind, u.id, u.amt, n, 0, u.hash, z32, u.note⟩) 70) := by rw [← hWc]; exact RB.out.setIdx n
          have bc : Below wr.heap.size wb wc := by rw [← hWc]; exact (Below.refl wr.heap.size wb).setCell (show wr.heap.size ≤ (⟨wr.heap.size, 3, none⟩ : Addr).block from Nat.le_refl _) _
          have z1 : wb.cell? ⟨wr.heap.size, 3, none⟩ = some (.int .i64 0) := RB.out.cell 3 (by omega)
          have z2 := RB.out.frozen 3
          have hsz : wr.heap.size < wb.heap.size := RB.out.lt
          have KC : Hid (UV w g3 g5 g7 u h2 wc) := by
            have e3 := KB.out
            have q3 : g3 < wr.heap.size ∧ g5 < wr.heap.size ∧ g7 < wr.heap.size := HLT
            exact ⟨e3.ru.below bc q3.1, e3.rh.below bc q3.2.1, e3.rm.below bc q3.2.2, e3.bel.trans (bc.mono (Nat.le_of_lt q3.1)), e3.ord⟩
          clear bc hsz HLT
          go_upto_region 19 with (first | refine wpW_load_at 25 _ rfl (g7) (0) (by rfl) (by rfl) _ 70 _ (KW0.out.rm.at_ 0 (by omega) (fun i hi => by rw [Nat.zero_add])) Try.underlying25 rfl infoM ?_ | refine wpList_storeM rfl _ _ rfl rfl (wr.heap.size) (ofU u) rfl rfl _ RA.out ?_ | fail)
          try rw [hWb]
          go_upto_region 26 with (first | fail)
          try rw [hWc]
          generalize wr.heap.size = gx at RC ⊢
          clear hWa hWb hWc RA RB KB KW0 z1 z2
          go_wp2_with (first | refine wpW_load_at 25 _ rfl (gx) (0) (by rfl) (by rfl) _ 70 _ (RC.out.at_ 0 (by omega) (fun i hi => by rw [Nat.zero_add])) Try.underlying25 rfl infoM ?_ | fail)
          refine (update_any_yes ⟨u.kind, u.id, u.amt, n, 0, u.hash, z32, u.note⟩ HK.out _).mono ?_
          rintro e wd ⟨rfl, hb⟩
          obtain ⟨wn, we, hWn, rn, hWe, re, be, _⟩ := newU2 wd u
          have RN := hide rn
          have VE := hide re
          have bb : Below wc.heap.size wc we := hb.trans (be.mono hb.size)
          have KE := hide (KC.out.below bb)
          have RE := hide (RC.out.below bb RC.out.lt)
          clear rn re be hb bb KC
          go_upto_region 27 with (first | refine wpList_storeU rfl _ _ rfl rfl (wd.heap.size) (u) rfl rfl _ RN.out ?_ | fail)
          try rw [hWe]
          generalize wd.heap.size = ge at VE ⊢
          clear hWn hWe RN RC
          have WX := hide (mwrite_any ⟨u.kind, u.id, u.amt, n, 0, u.hash, z32, u.note⟩)
          rw [show wrS ⟨u.kind, u.id, u.amt, n, 0, u.hash, z32, u.note⟩ = ⟨#[]⟩ by unfold wrS; rw [inv_idx u HK.out n HN.out]; rfl, show wrE ⟨u.kind, u.id, u.amt, n, 0, u.hash, z32, u.note⟩ = 160 by unfold wrE; rw [inv_idx u HK.out n HN.out]; rfl] at WX
          go_wp2_with (first | refine wpW_load_at 25 _ rfl (gx) (0) (by rfl) (by rfl) _ 70 _ (RE.out.at_ 0 (by omega) (fun i hi => by rw [Nat.zero_add])) Try.underlying25 rfl infoM ?_ | fail)
          refine (WX.out _).mono ?_
          rintro e wf ⟨rfl, hb⟩
          have KF := hide (KE.out.below hb)
          have VF := hide (VE.out.below hb VE.out.lt)
          clear hb KE VE RE WX
          go_wp2_with (first | refine wpW_load_at 34 _ rfl (ge) (0) (by rfl) (by rfl) _ 36 _ (VF.out.at_ 0 (by omega) (fun i hi => by rw [Nat.zero_add])) Try.underlying34 rfl infoU ?_ | refine wpW_load_at 34 _ rfl (g3) (0) (by rfl) (by rfl) _ 36 _ (KF.out.ru.at_ 0 (by omega) (fun i hi => by rw [Nat.zero_add])) Try.underlying34 rfl infoU ?_ | refine wpW_neUm (by rfl) (.tmp 145) (.tmp 146) rfl u u true (by rfl) (by rfl) (eqU_refl _) ?_ | fail)
          go_roundw
          case rel => exact ⟨1, by omega, by go_num, KF.out⟩
          case measure => simp [intOf]
        · clear hi
          obtain ⟨wa, wb, hWa, ra, hWb, rb, bb, _⟩ := newM wr (ofU u)
          have RA := hide ra
          have RB := hide rb
          have KB := hide (KW.out.below bb)
          clear ra rb bb KW
          obtain ⟨wc, hWc⟩ : ∃ z, wb.setCell ⟨wr.heap.size, 4, none⟩ (.int .i64 n) = z := ⟨_, rfl⟩
          have RC : Hid (Has wc wr.heap.size 25 (Msg.v ⟨u.kind, u.id, u.amt, 0, n, u.hash, z32, u.note⟩) 70) := by rw [← hWc]; exact RB.out.setNxt n
          have bc : Below wr.heap.size wb wc := by rw [← hWc]; exact (Below.refl wr.heap.size wb).setCell (show wr.heap.size ≤ (⟨wr.heap.size, 4, none⟩ : Addr).block from Nat.le_refl _) _
          have z1 : wb.cell? ⟨wr.heap.size, 4, none⟩ = some (.int .i64 0) := RB.out.cell 4 (by omega)
          have z2 := RB.out.frozen 4
          have hsz : wr.heap.size < wb.heap.size := RB.out.lt
          have KC : Hid (UV w g3 g5 g7 u h2 wc) := by
            have e3 := KB.out
            have q3 : g3 < wr.heap.size ∧ g5 < wr.heap.size ∧ g7 < wr.heap.size := HLT
            exact ⟨e3.ru.below bc q3.1, e3.rh.below bc q3.2.1, e3.rm.below bc q3.2.2, e3.bel.trans (bc.mono (Nat.le_of_lt q3.1)), e3.ord⟩
          clear bc hsz HLT
          go_upto_region 19 with (first | refine wpW_load_at 25 _ rfl (g7) (0) (by rfl) (by rfl) _ 70 _ (KW0.out.rm.at_ 0 (by omega) (fun i hi => by rw [Nat.zero_add])) Try.underlying25 rfl infoM ?_ | refine wpList_storeM rfl _ _ rfl rfl (wr.heap.size) (ofU u) rfl rfl _ RA.out ?_ | fail)
          try rw [hWb]
          go_upto_region 26 with (first | fail)
          try rw [hWc]
          generalize wr.heap.size = gx at RC ⊢
          clear hWa hWb hWc RA RB KB KW0 z1 z2
          go_wp2_with (first | refine wpW_load_at 25 _ rfl (gx) (0) (by rfl) (by rfl) _ 70 _ (RC.out.at_ 0 (by omega) (fun i hi => by rw [Nat.zero_add])) Try.underlying25 rfl infoM ?_ | fail)
          refine (update_any_yes ⟨u.kind, u.id, u.amt, 0, n, u.hash, z32, u.note⟩ HK.out _).mono ?_
          rintro e wd ⟨rfl, hb⟩
          obtain ⟨wn, we, hWn, rn, hWe, re, be, _⟩ := newU2 wd u
          have RN := hide rn
          have VE := hide re
          have bb : Below wc.heap.size wc we := hb.trans (be.mono hb.size)
          have KE := hide (KC.out.below bb)
          have RE := hide (RC.out.below bb RC.out.lt)
          clear rn re be hb bb KC
          go_upto_region 27 with (first | refine wpList_storeU rfl _ _ rfl rfl (wd.heap.size) (u) rfl rfl _ RN.out ?_ | fail)
          try rw [hWe]
          generalize wd.heap.size = ge at VE ⊢
          clear hWn hWe RN RC
          have WX := hide (mwrite_any ⟨u.kind, u.id, u.amt, 0, n, u.hash, z32, u.note⟩)
          rw [show wrS ⟨u.kind, u.id, u.amt, 0, n, u.hash, z32, u.note⟩ = ⟨#[]⟩ by unfold wrS; rw [inv_nxt u HK.out n HN.out]; rfl, show wrE ⟨u.kind, u.id, u.amt, 0, n, u.hash, z32, u.note⟩ = 160 by unfold wrE; rw [inv_nxt u HK.out n HN.out]; rfl] at WX
          go_wp2_with (first | refine wpW_load_at 25 _ rfl (gx) (0) (by rfl) (by rfl) _ 70 _ (RE.out.at_ 0 (by omega) (fun i hi => by rw [Nat.zero_add])) Try.underlying25 rfl infoM ?_ | fail)
          refine (WX.out _).mono ?_
          rintro e wf ⟨rfl, hb⟩
          have KF := hide (KE.out.below hb)
          have VF := hide (VE.out.below hb VE.out.lt)
          clear hb KE VE RE WX
          go_wp2_with (first | refine wpW_load_at 34 _ rfl (ge) (0) (by rfl) (by rfl) _ 36 _ (VF.out.at_ 0 (by omega) (fun i hi => by rw [Nat.zero_add])) Try.underlying34 rfl infoU ?_ | refine wpW_load_at 34 _ rfl (g3) (0) (by rfl) (by rfl) _ 36 _ (KF.out.ru.at_ 0 (by omega) (fun i hi => by rw [Nat.zero_add])) Try.underlying34 rfl infoU ?_ | refine wpW_neUm (by rfl) (.tmp 145) (.tmp 146) rfl u u true (by rfl) (by rfl) (eqU_refl _) ?_ | fail)
          go_roundw
          case rel => exact ⟨2, by omega, by go_num, KF.out⟩
          case measure => simp [intOf]
        · clear hi
          obtain ⟨wa, wb, hWa, ra, hWb, rb, bb, _⟩ := newM wr (ofU u)
          have RA := hide ra
          have RB := hide rb
          have KB := hide (KW.out.below bb)
          clear ra rb bb KW
          obtain ⟨wc, hWc⟩ : ∃ z, wb.setRow wr.heap.size (tabv (Msg.v ⟨(ofU u).kind, (ofU u).id, (ofU u).amt, (ofU u).idx, (ofU u).nxt, (ofU u).hash, h2, (ofU u).note⟩) 70) = z := ⟨_, rfl⟩
          have RC : Hid (Has wc wr.heap.size 25 (Msg.v ⟨u.kind, u.id, u.amt, 0, 0, u.hash, h2, u.note⟩) 70) := by rw [← hWc]; exact RB.out.row _ _ rfl
          have bc : Below wr.heap.size wb wc := by rw [← hWc]; exact below_setRow (Below.refl _ _) (Nat.le_refl _) _
          have hsz : wr.heap.size < wb.heap.size := RB.out.lt
          have KC : Hid (UV w g3 g5 g7 u h2 wc) := by
            have e3 := KB.out
            have q3 : g3 < wr.heap.size ∧ g5 < wr.heap.size ∧ g7 < wr.heap.size := HLT
            exact ⟨e3.ru.below bc q3.1, e3.rh.below bc q3.2.1, e3.rm.below bc q3.2.2, e3.bel.trans (bc.mono (Nat.le_of_lt q3.1)), e3.ord⟩
          clear bc hsz HLT
          go_upto_region 19 with (first | refine wpW_load_at 25 _ rfl (g7) (0) (by rfl) (by rfl) _ 70 _ (KW0.out.rm.at_ 0 (by omega) (fun i hi => by rw [Nat.zero_add])) Try.underlying25 rfl infoM ?_ | refine wpList_storeM rfl _ _ rfl rfl (wr.heap.size) (ofU u) rfl rfl _ RA.out ?_ | fail)
          try rw [hWb]
          go_upto_region 26 with (first | refine wpW_load_at 23 _ rfl (g5) (0) (by rfl) (by rfl) _ 32 _ (KB.out.rh.at_ 0 (by omega) (fun i hi => by rw [Nat.zero_add])) Try.underlying23 rfl info26 ?_ | refine wpList_storeMS rfl _ _ rfl rfl wr.heap.size (ofU u) h2 rfl rfl RB.out ?_ | fail)
          try rw [hWc]
          generalize wr.heap.size = gx at RC ⊢
          clear hWa hWb hWc RA RB KB KW0
          go_wp2_with (first | refine wpW_load_at 25 _ rfl (gx) (0) (by rfl) (by rfl) _ 70 _ (RC.out.at_ 0 (by omega) (fun i hi => by rw [Nat.zero_add])) Try.underlying25 rfl infoM ?_ | fail)
          refine (update_any_yes ⟨u.kind, u.id, u.amt, 0, 0, u.hash, h2, u.note⟩ HK.out _).mono ?_
          rintro e wd ⟨rfl, hb⟩
          obtain ⟨wn, we, hWn, rn, hWe, re, be, _⟩ := newU2 wd u
          have RN := hide rn
          have VE := hide re
          have bb : Below wc.heap.size wc we := hb.trans (be.mono hb.size)
          have KE := hide (KC.out.below bb)
          have RE := hide (RC.out.below bb RC.out.lt)
          clear rn re be hb bb KC
          go_upto_region 27 with (first | refine wpList_storeU rfl _ _ rfl rfl (wd.heap.size) (u) rfl rfl _ RN.out ?_ | fail)
          try rw [hWe]
          generalize wd.heap.size = ge at VE ⊢
          clear hWn hWe RN RC
          have WX := hide (mwrite_any ⟨u.kind, u.id, u.amt, 0, 0, u.hash, h2, u.note⟩)
          rw [show wrS ⟨u.kind, u.id, u.amt, 0, 0, u.hash, h2, u.note⟩ = ⟨#[]⟩ by unfold wrS; rw [inv_sec u HK.out h2 HH.out]; rfl, show wrE ⟨u.kind, u.id, u.amt, 0, 0, u.hash, h2, u.note⟩ = 160 by unfold wrE; rw [inv_sec u HK.out h2 HH.out]; rfl] at WX
          go_wp2_with (first | refine wpW_load_at 25 _ rfl (gx) (0) (by rfl) (by rfl) _ 70 _ (RE.out.at_ 0 (by omega) (fun i hi => by rw [Nat.zero_add])) Try.underlying25 rfl infoM ?_ | fail)
          refine (WX.out _).mono ?_
          rintro e wf ⟨rfl, hb⟩
          have KF := hide (KE.out.below hb)
          have VF := hide (VE.out.below hb VE.out.lt)
          clear hb KE VE RE WX
          go_wp2_with (first | refine wpW_load_at 34 _ rfl (ge) (0) (by rfl) (by rfl) _ 36 _ (VF.out.at_ 0 (by omega) (fun i hi => by rw [Nat.zero_add])) Try.underlying34 rfl infoU ?_ | refine wpW_load_at 34 _ rfl (g3) (0) (by rfl) (by rfl) _ 36 _ (KF.out.ru.at_ 0 (by omega) (fun i hi => by rw [Nat.zero_add])) Try.underlying34 rfl infoU ?_ | refine wpW_neUm (by rfl) (.tmp 145) (.tmp 146) rfl u u true (by rfl) (by rfl) (eqU_refl _) ?_ | fail)
          go_roundw
          case rel => exact ⟨3, by omega, by go_num, KF.out⟩
          case measure => simp [intOf]
        · clear hi HLT KW0
          go_wp2
          go_ret
          exact ⟨rfl, by first | exact KW.out.bel | (rw [hg0]; exact KW.out.bel)⟩
theorem mupd_walk (u : Upd) (n : Int) (h : Nat → UInt8) (w : World) : Calls Try.prog 4 #[.agg (tabv u.v 36), .int .i64 n, .agg (tabv (bv h) 32)] w fun e w' => e = .returned (.bool true) ∧ Below w.heap.size w w' := by
  by_cases hk : isU u.kind
  · exact mupd_yes u n h w hk
  · exact mupd_no u n h w hk
end Go.Proofs.Ytfohdolhobooiaa
