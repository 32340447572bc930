import Derived.Test.YtepgoehpjafbhaaGreatDoorSAp
import Derived.BigRegion
/-
  ScriptApart: the whole text.
-/
namespace Go.Proofs.YtepgoehpjafbhaaGreatDoor
open Go.RowKit S
set_option linter.unusedVariables false
set_option linter.unusedSimpArgs false
theorem lines_app : ∀ (a b : List UInt8), 10 ∉ a → linesL (a ++ 10 :: b) = a :: linesL b
  | [], b, _ => by
    show linesL (10 :: b) = _
    rw [linesL_cons, if_pos rfl]
  | c :: a, b, h => by
    show linesL (c :: (a ++ 10 :: b)) = _
    rw [linesL_cons, if_neg (fun e => h (by rw [e]; exact List.mem_cons_self)), lines_app a b (fun e => h (List.mem_cons_of_mem _ e))]
    rfl
theorem plain_cons {c : UInt8} {l : List UInt8} (h : isPl c = true) (k : plainL l) : plainL (c :: l) := fun x hx => (List.mem_cons.1 hx).elim (fun e => by rw [e]; exact h) (k x)
theorem plain_dig {F : Int → List UInt8} (hF : Sm F) (i : Nat) (h : i < 10) : plainL (F (i : Int)) := by
  have : ∀ k : Fin 10, isPl (UInt8.ofNat (48 + k.val)) = true := by decide +kernel
  rw [dig_len hF i h]
  intro c hc
  rcases List.mem_singleton.1 hc with rfl
  exact this ⟨i, h⟩
theorem plain_ftX {F : Int → List UInt8} (hF : Sm F) (t : List UInt8) (i : Nat) (h : i < 10) : plainL (ftX F t i) := by
  unfold ftX
  exact plain_cons rfl (plain_app (fun c hc => by revert c; decide) (plain_cons rfl (plain_app (plain_quote t) (plain_cons rfl (plain_app (plain_dig hF i h) (plain_cons rfl (plain_quote t)))))))
theorem plain_ftsX {F : Int → List UInt8} (hF : Sm F) (t : List UInt8) : ∀ m i, i + m ≤ 10 → plainL (ftsX F t i m)
  | 0, _, _ => fun x hx => by cases hx
  | m + 1, i, h => plain_app (plain_ftX hF t i (by omega)) (plain_ftsX hF t m (i + 1) (by omega))
theorem plain_lineX {F : Int → List UInt8} (hF : Sm F) (t : List UInt8) (s m : Nat) (hs : s < 10) (hm : m ≤ 5) : plainL (lineX F t s m) := by
  unfold lineX
  exact plain_app (fun c hc => by revert c; decide) (plain_cons rfl (plain_app (plain_dig hF s hs) (plain_cons rfl (plain_app (fun c hc => by revert c; decide) (plain_cons rfl (plain_cons rfl (plain_ftsX hF t m 0 (by omega))))))))
/-- The text of both commands. -/
def textX (F : Int → List UInt8) (t : List UInt8) (m : Nat) : List UInt8 := lineX F t 0 m ++ 10 :: (lineX F t 1 m ++ 10 :: [])
theorem textX_lines {F : Int → List UInt8} (hF : Sm F) (t : List UInt8) (m : Nat) (hm : m ≤ 5) : linesL (textX F t m) = [lineX F t 0 m, lineX F t 1 m, []] := by
  unfold textX
  rw [lines_app _ _ (no10 (plain_lineX hF t 0 m (by omega) hm)), lines_app _ _ (no10 (plain_lineX hF t 1 m (by omega) hm))]
  rfl
theorem textX_len {F : Int → List UInt8} (hF : Sm F) (t : List UInt8) (h : t.length ≤ 60) (m : Nat) (hm : m ≤ 5) : (textX F t m).length ≤ 5002 := by
  have h0 := lineX_len hF t h 0 m (by omega) hm
  have h1 := lineX_len hF t h 1 m (by omega) hm
  unfold textX
  simp only [List.length_append, List.length_cons, List.length_nil]
  omega
theorem textX_short {F : Int → List UInt8} (hF : Sm F) (t : List UInt8) (h : t.length ≤ 60) (m : Nat) (hm : m ≤ 5) : tooL (textX F t m) = false := by
  have h0 := lineX_len hF t h 0 m (by omega) hm
  have h1 := lineX_len hF t h 1 m (by omega) hm
  have hl := textX_len hF t h m hm
  have c0 : (lineX F t 0 m).count 10 = 0 := List.count_eq_zero.2 (no10 (plain_lineX hF t 0 m (by omega) hm))
  have c1 : (lineX F t 1 m).count 10 = 0 := List.count_eq_zero.2 (no10 (plain_lineX hF t 1 m (by omega) hm))
  have hc : (textX F t m).count 10 = 2 := by
    unfold textX
    rw [List.count_append, c0, List.count_cons_self, List.count_append, c1, List.count_cons_self]
    rfl
  have hlc : lcA (textX F t m) ≤ 1024 := by unfold lcA; rw [hc]; split <;> omega
  have hm2 : mostL (linesL (textX F t m)) ≤ 4096 := by
    rw [textX_lines hF t m hm]
    show max (max (max 0 (lineX F t 0 m).length) (lineX F t 1 m).length) 0 ≤ 4096
    omega
  unfold tooL
  rw [decide_eq_false (by omega), decide_eq_false (by omega), decide_eq_false (by omega)]
  rfl
/-- Two commands of which the fates lie anywhere. -/
def cmdsX (t : List UInt8) (m : Nat) (v : Value) : List Cd := [(upd (cmdS 0) 173 v, ftsA t 0 m), (upd (cmdS 1) 173 v, ftsA t 0 m)]
theorem print_X {F : Int → List UInt8} (hF : Sm F) (t : List UInt8) (h : t.length ≤ 60) (m : Nat) (hm : m ≤ 5) (v : Value) : printA F (cmdsX t m v) = (textX F t m, 0) := by
  have h0 := lineX_len hF t h 0 m (by omega) hm
  have e : linesW F (cmdsX t m v) ([], false) = some (textX F t m, false) := by
    unfold cmdsX
    rw [linesW_cons, commandW_A hF t [] h 0 m v (by omega) hm (by simp)]
    show linesW F _ (addW [10] ([] ++ lineX F t 0 m, false)) = _
    rw [addW_short (by simp only [List.length_append, List.length_cons, List.length_nil]; omega), linesW_cons, commandW_A hF t _ h 1 m v (by omega) hm (by simp only [List.length_append, List.length_cons, List.length_nil]; omega)]
    have h1 := lineX_len hF t h 1 m (by omega) hm
    show linesW F [] (addW [10] (_, false)) = _
    rw [addW_short (by simp only [List.length_append, List.length_cons, List.length_nil]; omega)]
    show some (_, false) = _
    unfold textX
    simp
  unfold printA
  rw [e]
  show (if false || tooL (textX F t m) then (([], 3) : List UInt8 × Int) else (textX F t m, 0)) = _
  rw [textX_short hF t h m hm]
  rfl
theorem noth_line (F : Int → List UInt8) (t : List UInt8) (s m : Nat) : noth (lineX F t s m) = false := rfl
theorem parse_X {F : Int → List UInt8} (hF : Sm F) (t : List UInt8) (h : t.length ≤ 60) (m : Nat) (hm : m + 1 ≤ 5) : parseA F (textX F t (m + 1)) = ([(cmdS 0, ftsA t 0 (m + 1)), (cmdS 1, ftsA t 0 (m + 1))], 0) := by
  unfold parseA
  rw [textX_short hF t h (m + 1) hm, if_neg (by decide), textX_lines hF t (m + 1) hm, readA_cons, noth_line, if_neg (by decide), (line_A hF t 0 m (by omega) (by omega)).1, readA_cons, noth_line, if_neg (by decide), (line_A hF t 1 m (by omega) (by omega)).1]
  rfl
theorem textT_X {F : Int → List UInt8} (hF : Sm F) (t : List UInt8) (m : Nat) (hm : m + 1 ≤ 5) : ∀ x ∈ linesL (textX F t (m + 1)), noth x = false → lineT F x := by
  rw [textX_lines hF t (m + 1) hm]
  intro x hx hn
  simp only [List.mem_cons, List.not_mem_nil, or_false] at hx
  rcases hx with rfl | rfl | rfl
  · exact (line_A hF t 0 m (by omega) (by omega)).2
  · exact (line_A hF t 1 m (by omega) (by omega)).2
  · cases hn
end Go.Proofs.YtepgoehpjafbhaaGreatDoor
/-
  SameFates, same: of rows that say the same.
-/
namespace Go.Proofs.YtepgoehpjafbhaaGreatDoor
open Go.RowKit S
set_option linter.unusedVariables false
set_option linter.unusedSimpArgs false
/-- Fates that may be read from a block's beginning on. -/
def FsZ (w : World) (ad : Option Addr) (gs : List (Nat → Value)) : Prop := (∀ (i : Nat) (g : Nat → Value), gs[i]? = some g → FtOk g ∧ One 4 g) ∧ (gs = [] ∨ ∃ k, ad = some ⟨k, 0, none⟩ ∧ k < w.heap.size ∧ ∀ (i : Nat) (g : Nat → Value), gs[i]? = some g → At w k (i * 4) g 4)
theorem FsZ.below {w w' : World} {ad : Option Addr} {gs : List (Nat → Value)} (h : FsZ w ad gs) (b : Below w.heap.size w w') : FsZ w' ad gs :=
  ⟨h.1, h.2.imp id fun ⟨k, h1, h2, h3⟩ => ⟨k, h1, Nat.lt_of_lt_of_le h2 b.size, fun i g hg => (h3 i g hg).blk (b.block k h2)⟩⟩
set_option maxRecDepth 100000 in
set_option maxHeartbeats 4000000 in
theorem sameFates_yes (ad1 ad2 : Option Addr) (cap1 cap2 : Nat) (fs : List (Nat → Value)) (w : World) (h1 : FsZ w ad1 fs) (h2 : FsZ w ad2 fs) (hl : fs.length ≤ 1000) :
    Calls Tryz.prog 15 #[.slice ad1 fs.length cap1, .slice ad2 fs.length cap2] w fun e w' => e = .returned (.bool true) ∧ Below w.heap.size w w' := by
  have H1 := hide h1
  have H2 := hide h2
  clear h1 h2
  go_enter Tryz.func15, Tryz.ntmps15
  go_wp2
  go_loopw [5] (fun v wr => ∃ i : Nat, i ≤ fs.length ∧ v = .int .i64 i ∧ Below w.heap.size w wr) (fun v _ => fs.length - (Lib.intOf v).toNat)
  case atStart => exact ⟨0, by omega, rfl, Below.refl _ _⟩
  case round =>
    obtain ⟨i, hi, rfl, hb⟩ := hrel
    have HB := hide hb
    have F1 := hide (H1.out.below hb)
    have F2 := hide (H2.out.below hb)
    clear hb
    by_cases hlt : i < fs.length
    · have hd : decide ((i : Int) < (fs.length : Int)) = true := decide_eq_true (by omega)
      have hg : fs[i]? = some fs[i] := List.getElem?_eq_getElem hlt
      obtain ⟨hok, _⟩ := F1.out.1 i _ hg
      obtain ⟨k1, rfl, hk1, ha1⟩ := F1.out.2.resolve_left (fun e => by rw [e] at hlt; simp at hlt)
      obtain ⟨k2, rfl, hk2, ha2⟩ := F2.out.2.resolve_left (fun e => by rw [e] at hlt; simp at hlt)
      have A1 := ha1 i _ hg
      have A2 := ha2 i _ hg
      clear ha1 ha2
      generalize fs[i] = g at hg hok A1 A2
      have e0 := (hok.str 0 (by decide)).1
      have e1 := (hok.int 1 (by decide)).1
      have e2 := (hok.int 2 (by decide)).1
      have e3 := (hok.str 3 (by decide)).1
      have a10 := A1 0 (by omega)
      have a11 := A1 1 (by omega)
      have a12 := A1 2 (by omega)
      have a13 := A1 3 (by omega)
      have a20 := A2 0 (by omega)
      have a21 := A2 1 (by omega)
      have a22 := A2 2 (by omega)
      have a23 := A2 3 (by omega)
      rw [e0] at a10 a20
      rw [e1] at a11 a21
      rw [e2] at a12 a22
      rw [e3] at a13 a23
      generalize kd (g 1) = x1 at a11 a21
      generalize kd (g 2) = x2 at a12 a22
      generalize bs (sbv (g 0)) = s0 at a10 a20
      generalize bs (sbv (g 3)) = s3 at a13 a23
      clear e0 e1 e2 e3 A1 A2 hok hg
      rw [Nat.add_zero] at a10 a20
      go_wp2_with fail
      go_region
      have HBd := hide HB.out.drew
      clear a10 a11 a12 a13 a20 a21 a22 a23
      go_wp2
      refine ⟨⟨i + 1, by omega, by go_num, HBd.out⟩, ?_⟩
      simp [Lib.intOf]; omega
    · have hd : decide ((i : Int) < (fs.length : Int)) = false := decide_eq_false (by omega)
      go_wp2
      go_ret
      exact ⟨rfl, HB.out⟩
def zW : Nat → Value := fun i => zC (1 + i)
def zS : Nat → Value := fun i => zC (135 + i)
set_option maxRecDepth 100000 in
theorem eqWz (d : Nat) (w : World) : (Op.equalIn (d + 8) 38 (.agg (tabv zW 132)) (.agg (tabv zW 132))).run Tryz.prog w = .ok true w := by kernel_rfl
theorem guardW : Tryz.prog.eqGuardType Tryz.prog.depth 38 = false := by kernel_rfl
theorem infoW : (Tryz.prog.info? 38).map (·.size) = some 132 := by kernel_rfl
theorem infoS : (Tryz.prog.info? 33).map (·.size) = some 39 := by kernel_rfl
theorem run_neW {o : Oper} {a : Act} (w : World) (x y : Operand) (ho : o.op = .binOp .neq 38 x y 38) (hx : a.eval x = .agg (tabv zW 132)) (hy : a.eval y = .agg (tabv zW 132)) : (execOp a.eval o).run Tryz.prog w = .ok (.value (.bool false)) w := by
  have gh := guardW
  have hq : ∀ w : World, (Op.equalIn 10000 38 (.agg (tabv zW 132)) (.agg (tabv zW 132))).run Tryz.prog w = .ok true w := fun w => eqWz 9992 w
  generalize tabv zW 132 = A at hx hy hq
  unfold execOp
  simp only [ho, hx, hy]
  go_simp
theorem run_neH0 {o : Oper} {a : Act} (w : World) (x y : Operand) (f : Nat → UInt8) (ho : o.op = .binOp .neq 30 x y 30) (hx : a.eval x = .agg (tabv (bv f) 32)) (hy : a.eval y = .agg (tabv (bv f) 32)) : (execOp a.eval o).run Tryz.prog w = .ok (.value (.bool false)) w := by
  have gh := guard26
  have hq : ∀ w : World, (Op.equalIn 10000 30 (.agg (tabv (bv f) 32)) (.agg (tabv (bv f) 32))).run Tryz.prog w = .ok true w := fun w => by
    have := eqHD 9998 w f f
    rw [eqH_refl] at this
    exact this
  generalize tabv (bv f) 32 = A at hx hy hq
  unfold execOp
  simp only [ho, hx, hy]
  go_simp
section
variable {ops : Array Oper} {rest : List Oper} {o : Oper} {a : Act} {w : World} {Q : Exit → Act → World → Prop}
theorem wpW_neW (hw : Region.wanted o (yielded ops a.tmps) = true) (x y : Operand) (ho : o.op = .binOp .neq 38 x y 38) (hx : a.eval x = .agg (tabv zW 132)) (hy : a.eval y = .agg (tabv zW 132)) (k : wpList Tryz.prog ops Q rest (a.put o.dst (.bool false)) w) : wpList Tryz.prog ops Q (o :: rest) a w := by
  refine wpList_step fun K hK => ?_
  rw [if_pos hw]
  exact wpRun (run_neW w x y ho hx hy) (hK _ _ k)
theorem wpW_neH0 (hw : Region.wanted o (yielded ops a.tmps) = true) (x y : Operand) (f : Nat → UInt8) (ho : o.op = .binOp .neq 30 x y 30) (hx : a.eval x = .agg (tabv (bv f) 32)) (hy : a.eval y = .agg (tabv (bv f) 32)) (k : wpList Tryz.prog ops Q rest (a.put o.dst (.bool false)) w) : wpList Tryz.prog ops Q (o :: rest) a w := by
  refine wpList_step fun K hK => ?_
  rw [if_pos hw]
  exact wpRun (run_neH0 w x y f ho hx hy) (hK _ _ k)
end
/-- Commands that say a crash: their cells but the fates'. -/
structure Pz (f : Nat → Value) : Prop where
  ok : CdOk f
  one : One 176 f
  wd : ∀ j, 1 ≤ j → j ≤ 132 → f j = zC j
  hs : ∀ j, 139 ≤ j → j ≤ 170 → f j = zC j
/-- Commands that may be read from a block's beginning on; their fates lie where V says. -/
def CsZ (w : World) (k : Nat) (V : Nat → Value) (cs : List Cd) : Prop := k < w.heap.size ∧ ∀ i c, cs[i]? = some c → At w k (i * 176) (upd c.1 173 (V i)) 176 ∧ (V i).oneCell' = true ∧ ∃ a cap, V i = .slice a c.2.length cap ∧ FsZ w a c.2
theorem CsZ.below {w w' : World} {k : Nat} {V : Nat → Value} {cs : List Cd} (h : CsZ w k V cs) (b : Below w.heap.size w w') : CsZ w' k V cs :=
  ⟨Nat.lt_of_lt_of_le h.1 b.size, fun i c hc => by
    obtain ⟨h1, h0, a, cap, h2, h3⟩ := h.2 i c hc
    exact ⟨h1.blk (b.block k h.1), h0, a, cap, h2, h3.below b⟩⟩
end Go.Proofs.YtepgoehpjafbhaaGreatDoor
