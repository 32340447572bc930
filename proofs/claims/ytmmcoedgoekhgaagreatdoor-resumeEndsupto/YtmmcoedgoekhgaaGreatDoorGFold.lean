/-
  Ledger: Fold (printed by gen_fold.py).
-/
import Derived.Test.YtmmcoedgoekhgaaGreatDoorGSet
import Derived.Deep.DeepAppendWide
namespace Go.Proofs.YtmmcoedgoekhgaaGreatDoor
set_option maxRecDepth 20000
open Go.RowKit S Go.Shelf Go.Sort
set_option linter.unusedVariables false
set_option linter.unusedSimpArgs false
def ledv (x y : Int) (v : Value) : Nat → Value := fun i => if i = 0 then .int .i64 x else if i = 1 then .int .i64 y else v
theorem zeroL : (#[.int .i64 0, .int .i64 0, .slice none 0 0] : Array Value) = tabv (ledv 0 0 (.slice none 0 0)) 3 := rfl
theorem infoL : (Tryz.prog.info? 143).map (·.size) = some 3 := by kernel_rfl
def balX (bO : Int) (a b : List Upd) : Int := bO - sumIf (lostB b) a + sumIf (wonB a) b
def balY (bP : Int) (a b : List Upd) : Int := bP + sumIf (wonB b) a - sumIf (lostB a) b
theorem OwnP.mono {B B' : Nat} {w : World} {v : Value} {l : List Pen} (h : OwnP B w v l) (hb : B' ≤ B) : OwnP B' w v l :=
  ⟨h.1, h.2.imp id fun ⟨g, cap, cur, h1, h2, h3⟩ => ⟨g, cap, cur, h1, Nat.le_trans hb h2, h3⟩⟩
theorem balX_bd (bO : Int) (a b : List Upd) : 0 ≤ sumIf (lostB b) a ∧ sumIf (lostB b) a ≤ (a.length : Int) * 1152921504606846976 ∧ 0 ≤ sumIf (wonB b) a ∧ sumIf (wonB b) a ≤ (a.length : Int) * 1152921504606846976 :=
  ⟨(sumIf_bd (lost_add b) a).1, (sumIf_bd (lost_add b) a).2, (sumIf_bd (won_add b) a).1, (sumIf_bd (won_add b) a).2⟩
theorem run_appPP (w : World) (B B2 : Nat) (v v2 : Value) (l l2 : List Pen) (h : OwnP B w v l) (h2 : OwnP B2 w v2 l2) (hsz : l.length + l2.length ≤ 3910000000000) (hB : B ≤ w.heap.size) :
    ∃ v' w', (Builtin.append_ #[141, 141] 141 #[v, v2]).run Tryz.prog w = .ok v' w' ∧ OwnP B w' v' (l ++ l2) ∧ w.grownBy w' v.ownBlock := by
  obtain ⟨i, h1, h2', h3, h4⟩ := infoPP
  obtain ⟨_, ⟨rfl, hn⟩ | ⟨g, cap, cur, rfl, hb, hg, q1, q2, q3, q4⟩⟩ := h2
  · have : l2 = [] := List.length_eq_zero_iff.1 hn
    subst this
    refine ⟨v, w, ?_, by rw [List.append_nil]; exact h, ⟨rfl, rfl, rfl, Nat.le_refl _, fun _ _ _ => rfl⟩⟩
    obtain ⟨_, ⟨rfl, _⟩ | ⟨g, cap, cur, rfl, hb, hg, q1, q2, q3, q4⟩⟩ := h
    · simp [Builtin.append_, run_underlying Tryz.underlying141, sizeOf, typeInfo, h1, Builtin.lenOf, Builtin.firstCells, storeCells, loadCells, loadCellsFrom]
    · simp [Builtin.append_, run_underlying Tryz.underlying141, sizeOf, typeInfo, h1, Builtin.lenOf, Builtin.firstCells, storeCells, loadCells, loadCellsFrom, q1]
  · obtain ⟨v', w', e1, e2, e3, _⟩ := run_append_own_wide (P := Tryz.prog) w B 141 141 186 i _ 35 56 Tryz.underlying141 h1 h2' h3 h4 (by rfl) (by omega) v l.length (cellsP l) h ⟨g, 0, none⟩ l2.length cap (cellsP l2) (cellsP_length l2)
      (fun j u hj => by
        have hj' : j < l2.length * 35 := by have := (List.getElem?_eq_some_iff.1 hj).1; rw [cellsP_length] at this; exact this
        have hadd : (⟨g, 0, none⟩ : Addr).add j = ⟨g, j, none⟩ := by unfold Addr.add; split <;> simp_all
        rw [hadd, cell_of_row w g j cur _ (0, 0) hg, ← Array.getElem?_toList, ← hj, ← q4, List.getElem?_take_of_lt hj'])
      (fun u hu => by
        obtain ⟨s, _, hs⟩ := List.mem_flatMap.1 hu
        exact s.one u hs) (by unfold maxLen; omega) (by omega) hB
    refine ⟨v', w', e1, ?_, e3⟩
    unfold OwnP
    rw [List.length_append, cellsP_append]
    exact e2
theorem OwnP.form {B : Nat} {w : World} {v : Value} {l : List Pen} (h : OwnP B w v l) : ∃ ad n c, v = .slice ad n c := by
  obtain ⟨_, ⟨rfl, _⟩ | ⟨g, cap, cur, rfl, _⟩⟩ := h
  · exact ⟨_, _, _, rfl⟩
  · exact ⟨_, _, _, rfl⟩
theorem OwnP.one {B : Nat} {w : World} {v : Value} {l : List Pen} (h : OwnP B w v l) : v.oneCell' = true := by
  obtain ⟨_, ⟨rfl, _⟩ | ⟨g, cap, cur, rfl, _⟩⟩ := h <;> rfl
theorem one_ledv (x y : Int) (v : Value) (hv : v.oneCell' = true) (i : Nat) : (ledv x y v i).oneCell' = true := by unfold ledv; split; rfl; split; rfl; exact hv
section
variable {ops : Array Oper} {rest : List Oper} {o : Oper} {a : Act} {w : World} {Q : Exit → Act → World → Prop}
theorem wpList_storeL (hgd : o.guard = none) (x y : Operand) (ho : o.op = .store 143 x y) (hd : o.dst = none) (g : Nat) (p q : Int) (v : Value) (hv : v.oneCell' = true) (hx : a.eval x = .pointer (some ⟨g, 0, none⟩)) (hy : a.eval y = .agg (tabv (ledv p q v) 3)) (f : Nat → Value) (hg : Has w g 143 f 3)
    (hk : wpList Tryz.prog ops Q rest a (w.setRow g (tabv (ledv p q v) 3))) : wpList Tryz.prog ops Q (o :: rest) a w :=
  wpList_store_part hgd 143 x y ho hd g 0 (ledv p q v) 3 hx hy 143 f 3 hg (by omega) infoL (fun i _ => one_ledv p q v hv i) (ledv p q v) (fun i hi => by unfold splice; rw [if_pos (by omega), Nat.sub_zero]) hk
end
theorem resL2 (w : World) (g : Nat) (f : Nat → Value) (tmps : Array Value) (k : Value) (c t : Nat) (hg : Has w g 143 f 3) (hp : tmps.getD c undef = .pointer (some ⟨g, 0, none⟩)) (hq : tmps.getD t undef = k) (fn : Func) (h : fn.results = #[.cell c 143, .tmp t]) :
    (results fn tmps).run Tryz.prog w = .ok (.tuple #[.agg (tabv f 3), k]) w := by
  rw [results_cell_tmp h, hp, hq]
  have := run_loadVar_row (P := Tryz.prog) w g 143 143 (tabv f 3) (0, 0) _ hg Tryz.underlying143 rfl (by rw [tabv_size]; exact infoL)
  simp [asAddr, this]
set_option maxRecDepth 100000 in
set_option maxHeartbeats 4000000 in
theorem fold_ok (bO bP : Int) (a1 a2 : Option Addr) (n1 c1 n2 c2 : Nat) (mine others : List Upd) (hn1 : mine.length = n1) (hn2 : others.length = n2) (z1 : n1 ≤ 1955000000000) (z2 : n2 ≤ 1955000000000) (k1 : n1 ≤ c1) (k2 : n2 ≤ c2) (kO kP : Nat) (lO : kO ≤ n1) (lP : kP ≤ n2) (w : World) (hS1 : Upds w a1 mine) (hS2 : Upds w a2 others) (hpl : plusA bO bP = (bO + bP, 0)) (HBS : Hid (0 ≤ bO ∧ bO ≤ 1152921504606846976 ∧ 0 ≤ bP ∧ bP ≤ 1152921504606846976)) (hvA : (mine.take kO).all validB = true) (hvB : (others.take kP).all validB = true) (HSUM : Hid (kO + kP ≤ 3910000000000)) : Calls Tryz.prog 100 #[.int .i64 bO, .int .i64 bP, .slice a1 n1 c1, .slice a2 n2 c2, .agg #[.int .i64 (kO : Int), .int .i64 (kP : Int)]] w fun e w' => (∃ v, balX bO (mine.take kO) (others.take kP) ≥ 0 ∧ balY bP (mine.take kO) (others.take kP) ≥ 0 ∧ e = .returned (.tuple #[.agg (tabv (ledv (clampA (balX bO (mine.take kO) (others.take kP))) (clampA (balY bP (mine.take kO) (others.take kP))) v) 3), .int .i64 0]) ∧ OwnP w.heap.size w' v (sortP (opensL true (others.take kP) (mine.take kO)) ++ sortP (opensL false (mine.take kO) (others.take kP))) ∧ Below w.heap.size w w') ∨ ((balX bO (mine.take kO) (others.take kP) < 0 ∨ balY bP (mine.take kO) (others.take kP) < 0) ∧ e = .returned (.tuple #[.agg (tabv (ledv 0 0 (.slice none 0 0)) 3), .int .i64 130]) ∧ Below w.heap.size w w') := by
  obtain ⟨A, hA⟩ : ∃ A, mine.take kO = A := ⟨_, rfl⟩
  obtain ⟨B, hB⟩ : ∃ B, others.take kP = B := ⟨_, rfl⟩
  rw [hA] at hvA ⊢
  rw [hB] at hvB ⊢
  have lA : A.length = kO := by rw [← hA, List.length_take]; omega
  have lB : B.length = kP := by rw [← hB, List.length_take]; omega
  have hSA : Upds w a1 A := by rw [← hA]; exact hS1.take kO
  have hSB : Upds w a2 B := by rw [← hB]; exact hS2.take kP
  obtain ⟨Xf, hXf⟩ : ∃ x, balX bO A B = x := ⟨_, rfl⟩
  obtain ⟨Yf, hYf⟩ : ∃ x, balY bP A B = x := ⟨_, rfl⟩
  rw [hXf, hYf]
  have EXf := hide hXf
  have EYf := hide hYf
  obtain ⟨LF, hLF⟩ : ∃ x, sortP (opensL true B A) ++ sortP (opensL false A B) = x := ⟨_, rfl⟩
  rw [hLF]
  have ELF := hide hLF
  clear hXf hYf hA hB hLF
  have hwO : ∀ w, Calls Tryz.prog 94 #[.int .i64 (kO : Int), .slice a1 n1 c1] w fun e w' => e = .returned (.int .i64 (kO : Int)) ∧ w' = w := fun w => by have := within_any (kO : Int) a1 n1 c1 w; rw [(inL_eq (kO : Int) n1).2 ⟨by omega, by omega⟩] at this; exact this
  have hwP : ∀ w, Calls Tryz.prog 94 #[.int .i64 (kP : Int), .slice a2 n2 c2] w fun e w' => e = .returned (.int .i64 (kP : Int)) ∧ w' = w := fun w => by have := within_any (kP : Int) a2 n2 c2 w; rw [(inL_eq (kP : Int) n2).2 ⟨by omega, by omega⟩] at this; exact this
  have HO := hide hwO
  have HP := hide hwP
  have slO := fun w => sliceK w a1 n1 c1 kO (by omega)
  have slP := fun w => sliceK w a2 n2 c2 kP (by omega)
  have qO : ((kO : Int) != (kO : Int)) = false := by simp
  have qP : ((kP : Int) != (kP : Int)) = false := by simp
  obtain ⟨w1, hw1⟩ : ∃ x, w.alloc (.cells #[.int .i64 (kO : Int), .int .i64 (kP : Int)] 29) = x := ⟨_, rfl⟩
  obtain ⟨w2, hw2⟩ : ∃ x, w1.alloc (.cells #[.int .i64 0, .int .i64 0, .slice none 0 0] 143) = x := ⟨_, rfl⟩
  have b1w : Below w.heap.size w w1 := by rw [← hw1]; exact (Below.refl _ w).alloc (Nat.le_refl _) _
  have b2w : Below w.heap.size w w2 := by rw [← hw2]; exact b1w.alloc b1w.size _
  have e0 : w2.cell? ⟨w.heap.size, 0, none⟩ = some (.int .i64 (kO : Int)) := by rw [← hw2, ← hw1]; simp
  have e1 : w2.cell? ⟨w.heap.size, 1, none⟩ = some (.int .i64 (kP : Int)) := by rw [← hw2, ← hw1]; simp
  have gL0 : Has w2 w1.heap.size 143 (ledv 0 0 (.slice none 0 0)) 3 := by rw [← hw2, zeroL]; exact Has.new w1 143 _ 3 _ rfl
  have lt1 : w.heap.size < w1.heap.size := by rw [← hw1]; simp
  generalize hgL : w1.heap.size = gL at gL0 lt1
  have GL := hide gL0
  clear hwO hwP gL0
  go_enter Tryz.func100, Tryz.ntmps100
  go_wp2_with fail
  go_quiet ((go_at_call 94; first | exact Calls.quiet_of_same (HO.out _) | exact Calls.quiet_of_same (HP.out _)))
  have f0 : (w2.drewN nq).cell? ⟨w.heap.size, 0, none⟩ = some (.int .i64 (kO : Int)) := e0
  have f1 : (w2.drewN nq).cell? ⟨w.heap.size, 1, none⟩ = some (.int .i64 (kP : Int)) := e1
  have G3 : Hid (Has (w2.drewN nq) gL 143 (ledv 0 0 (.slice none 0 0)) 3) := GL.out
  have b3 : Below w.heap.size w (w2.drewN nq) := belowD b2w nq
  generalize w2.drewN nq = w3 at f0 f1 G3 b3 ⊢
  clear e0 e1 GL b2w b1w hw1 hw2 nq HO HP
  go_wp2_with (go_at_call 142; go_must (refine (aplus_any bO bP w3).mono ?_); rintro e wx ⟨rfl, hx⟩; obtain rfl := hx.symm; clear hx; rw [hpl])
  go_quiet (fail)
  have G4 : Hid (Has (w3.drewN nq) gL 143 (ledv 0 0 (.slice none 0 0)) 3) := G3.out
  have b4 : Below w.heap.size w (w3.drewN nq) := belowD b3 nq
  generalize w3.drewN nq = w4 at G4 b4 ⊢
  clear f0 f1 G3 b3 nq slO slP
  have LA := hide lA
  have LB := hide lB
  have LL : Hid (kO ≤ 1955000000000 ∧ kP ≤ 1955000000000) := ⟨by omega, by omega⟩
  have hltL : gL < w4.heap.size := G4.out.lt
  clear hn1 hn2 z1 z2 k1 k2 lO lP lA lB hS1 hS2
  have VA := allValid_any a1 kO c1 A LA.out (by have := LL.out; omega) w4 (hSA.below b4)
  rw [hvA] at VA
  go_wp2_with fail
  refine VA.mono ?_
  rintro e w5 ⟨rfl, hb5⟩
  have b5 := b4.trans (hb5.mono b4.size)
  have VB := allValid_any a2 kP c2 B LB.out (by have := LL.out; omega) w5 (hSB.below b5)
  rw [hvB] at VB
  go_wp2_with fail
  refine VB.mono ?_
  rintro e w6 ⟨rfl, hb6⟩
  have b6 := b5.trans (hb6.mono b5.size)
  have G6 : Hid (Has w6 gL 143 (ledv 0 0 (.slice none 0 0)) 3) := (G4.out.below hb5 hltL).below hb6 (Nat.lt_of_lt_of_le hltL hb5.size)
  have hl6 : gL < w6.heap.size := G6.out.lt
  clear VA VB b4 b5 hb5 hb6 G4 hltL
  obtain ⟨w7, hw7⟩ : ∃ x, w6.alloc (.cells #[.int .i64 0, .int .i64 0] 136) = x := ⟨_, rfl⟩
  obtain ⟨w8, hw8⟩ : ∃ x, w7.alloc (.cells #[.int .i64 0, .int .i64 0] 136) = x := ⟨_, rfl⟩
  have t7 : Tot w7 w6.heap.size 0 := by rw [← hw7]; exact Tot.new w6
  have u8 : Tot w8 w7.heap.size 0 := by rw [← hw8]; exact Tot.new w7
  have t8 : Tot w8 w6.heap.size 0 := by rw [← hw8]; exact Has.old t7 _
  have b8 : Below w.heap.size w w8 := by rw [← hw8, ← hw7]; exact (b6.alloc b6.size _).alloc (Nat.le_trans b6.size (by simp)) _
  have G8 : Hid (Has w8 gL 143 (ledv 0 0 (.slice none 0 0)) 3) := by rw [← hw8, ← hw7]; exact (G6.out.old _).old _
  have s67 : w6.heap.size < w7.heap.size := by rw [← hw7]; simp
  have hge6 := b6.size
  generalize hgm : w6.heap.size = gm at t7 t8 s67 hl6 hge6
  generalize hgt : w7.heap.size = gt at u8 s67
  have ne1 : ¬ (gm = gt) := by omega
  have ne2 : ¬ (gt = gm) := by omega
  have neL1 : ¬ (gL = gm) := by omega
  have neL2 : ¬ (gL = gt) := by omega
  clear b6 G6 t7
  go_wp2_with fail
  refine (tplus_any gm 0 bO w8 t8 (by have := HBS.out; omega) (by have := HBS.out; omega) (by unfold Bd; omega)).mono ?_
  rintro e w9 ⟨rfl, t9, k9⟩
  have u9 := u8.keep k9 ne2
  have G9 : Hid (Has w9 gL 143 (ledv 0 0 (.slice none 0 0)) 3) := Has.keep G8.out k9 neL1
  have b9 := b8.trans (k9.below b8.size (fun k hk e => by omega))
  rw [Int.zero_add] at t9
  clear t8 u8 G8 b8 k9 hw7 hw8
  go_wp2_with fail
  refine (tplus_any gt 0 bP w9 u9 (by have := HBS.out; omega) (by have := HBS.out; omega) (by unfold Bd; omega)).mono ?_
  rintro e wA ⟨rfl, uA, kA⟩
  have tA := t9.keep kA ne1
  have GA : Hid (Has wA gL 143 (ledv 0 0 (.slice none 0 0)) 3) := Has.keep G9.out kA neL2
  have bA := b9.trans (kA.below b9.size (fun k hk e => by omega))
  rw [Int.zero_add] at uA
  clear t9 u9 G9 b9 kA
  have BDA := hide (balX_bd bO A B)
  have BDB := hide (balX_bd bO B A)
  have ST1 := settle_any gm gt bO bP a1 a2 kO c1 kP c2 A B LA.out LB.out LL.out.1 LL.out.2 true wA (hSA.below bA) (hSB.below bA) (by
    rcases hSA with h | ⟨b, o, h1, h2, _⟩
    · exact .inl h
    · exact .inr fun x hx => by rw [h1] at hx; cases hx; exact ⟨by show b ≠ gm; omega, by show b ≠ gt; omega⟩) tA uA ne1 (by have := HBS.out; unfold BX; omega) (by have := HBS.out; unfold BX; omega)
  go_wp2_with fail
  refine ST1.mono ?_
  rintro e wB ⟨v1, rfl, tB, uB, oB, kB⟩
  have GB : Hid (Has wB gL 143 (ledv 0 0 (.slice none 0 0)) 3) := Has.keep GA.out kB (fun h => by rcases h with h | h; exact neL1 h; exact neL2 h)
  have bB := bA.trans (kB.below bA.size (fun k hk h => by rcases h with h | h <;> omega))
  have hsA := tA.lt
  have huA := uA.lt
  clear ST1 tA uA GA
  have ST2 := settle_any gt gm (bP + sumIf (wonB B) A) (bO - sumIf (lostB B) A) a2 a1 kP c2 kO c1 B A LB.out LA.out LL.out.2 LL.out.1 false wB (hSB.below bB) (hSA.below bB) (by
    rcases hSB with h | ⟨b, o, h1, h2, _⟩
    · exact .inl h
    · exact .inr fun x hx => by rw [h1] at hx; cases hx; exact ⟨by show b ≠ gt; omega, by show b ≠ gm; omega⟩) uB tB ne2 (by have := HBS.out; have := BDA.out; have := LA.out; have := LL.out; unfold BX; omega) (by have := HBS.out; have := BDA.out; have := LA.out; have := LL.out; unfold BX; omega)
  have hgeA := bA.size
  have hAB := kB.size
  go_wp2_with fail
  refine ST2.mono ?_
  rintro e wC ⟨v2, rfl, uC, tC, oC, kC⟩
  have GC : Hid (Has wC gL 143 (ledv 0 0 (.slice none 0 0)) 3) := Has.keep GB.out kC (fun h => by rcases h with h | h; exact neL2 h; exact neL1 h)
  have bC := bB.trans (kC.below bB.size (fun k hk h => by rcases h with h | h <;> omega))
  have oB' := oB.keep kC (fun k hk h => by have := (oB.lt k hk).1; rcases h with h | h <;> omega)
  have hl1 : (sortP (opensL true B A)).length + (sortP (opensL false A B)).length ≤ 4000000000000 := by
    rw [sortP_length, sortP_length]
    have e1 := opens_len true B A
    have e2 := opens_len false A B
    have := LA.out; have := LB.out; have := LL.out; omega
  have hl2 : (sortP (opensL true B A)).length + (sortP (opensL false A B)).length ≤ kO + kP := by
    rw [sortP_length, sortP_length]
    have e1 := opens_len true B A
    have e2 := opens_len false A B
    have := LA.out; have := LB.out; omega
  obtain ⟨vF, wD, ap, oD, gD⟩ := run_appPP wC wA.heap.size wB.heap.size v1 v2 _ _ oB' oC (by have := HSUM.out; have := hl2; omega) (by have := kC.size; omega)
  obtain ⟨adF, nF, cF, rfl⟩ := oD.form
  have hvF : ∀ k, (Value.slice adF nF cF).ownBlock = some k → k ≠ gL := fun k hk e => by have := (oD.lt k hk).1; omega
  have hvo : ∀ k, v1.ownBlock = some k → wA.heap.size ≤ k := fun k hk => (oB.lt k hk).1
  have kD : Keep (fun k => v1.ownBlock = some k) wC wD := Keep.grown gD (fun k e => e)
  have tD := tC.keep kD (fun e => by have := hvo _ e; omega)
  have uD := uC.keep kD (fun e => by have := hvo _ e; omega)
  have GD : Hid (Has wD gL 143 (ledv 0 0 (.slice none 0 0)) 3) := Has.keep GC.out kD (fun e => by have := hvo _ e; omega)
  have bD := bC.trans (kD.below bC.size (fun k hk e => by have := hvo _ e; omega))
  have oD' := oD.mono hgeA
  have AP := hide ap
  have OD := hide oD'
  have eX : bO - sumIf (lostB B) A + sumIf (wonB A) B = Xf := EXf.out
  have eY : bP + sumIf (wonB B) A - sumIf (lostB A) B = Yf := EYf.out
  rw [eX] at tD
  rw [eY] at uD
  rw [ELF.out] at OD
  clear eX eY
  clear ap oD oD' kD gD hvo hl1 hl2 oB' oB oC uC tC kC GC ST2 uB tB kB bA bB bC GB hAB
  go_wp2_with (first | refine wpList_app rfl (.tmp 69) (.tmp 72) _ rfl AP.out ?_ | fail)
  refine (tbelow_any gm Xf wD tD).mono ?_
  rintro e wx ⟨rfl, hx⟩
  obtain rfl := hx.symm
  clear hx
  by_cases hX : Xf < 0
  · have dX : decide (Xf < 0) = true := decide_eq_true hX
    rw [dX]
    go_wp2_with (first | refine wpList_storeL rfl _ _ rfl rfl gL 0 0 (.slice none 0 0) rfl rfl rfl _ GD.out ?_ | fail)
    exact bodyPost_ret (resL2 _ gL _ _ (.int .i64 130) 10 11 (GD.out.row _ (ledv 0 0 (.slice none 0 0)) rfl) rfl rfl _ rfl) rfl (.inr ⟨.inl hX, rfl, below_setRow bD (by omega) _⟩)
  · have dX : decide (Xf < 0) = false := decide_eq_false hX
    rw [dX]
    go_wp2_with fail
    refine (tbelow_any gt Yf wD uD).mono ?_
    rintro e wx ⟨rfl, hx⟩
    obtain rfl := hx.symm
    clear hx
    by_cases hY : Yf < 0
    · have dY : decide (Yf < 0) = true := decide_eq_true hY
      rw [dY]
      go_wp2_with (first | refine wpList_storeL rfl _ _ rfl rfl gL 0 0 (.slice none 0 0) rfl rfl rfl _ GD.out ?_ | fail)
      exact bodyPost_ret (resL2 _ gL _ _ (.int .i64 130) 10 11 (GD.out.row _ (ledv 0 0 (.slice none 0 0)) rfl) rfl rfl _ rfl) rfl (.inr ⟨.inr hY, rfl, below_setRow bD (by omega) _⟩)
    · have dY : decide (Yf < 0) = false := decide_eq_false hY
      rw [dY]
      have hone := OD.out.one
      go_wp2_with fail
      refine (tnear_any gm Xf wD tD).mono ?_
      rintro e wx ⟨rfl, hx⟩
      obtain rfl := hx.symm
      clear hx
      go_wp2_with fail
      refine (tnear_any gt Yf wD uD).mono ?_
      rintro e wx ⟨rfl, hx⟩
      obtain rfl := hx.symm
      clear hx
      obtain ⟨cx, hcx⟩ : ∃ c, clampA Xf = c := ⟨_, rfl⟩
      obtain ⟨cy, hcy⟩ : ∃ c, clampA Yf = c := ⟨_, rfl⟩
      rw [hcx, hcy]
      go_wp2_with (first | refine wpList_storeL rfl _ _ rfl rfl gL cx cy (.slice adF nF cF) hone rfl rfl _ GD.out ?_ | fail)
      refine bodyPost_ret (resL2 _ gL _ _ (.int .i64 0) 10 11 (GD.out.row _ (ledv cx cy (.slice adF nF cF)) rfl) rfl rfl _ rfl) rfl (.inl ⟨.slice adF nF cF, by omega, by omega, by rw [hcx, hcy], ?_, below_setRow bD (by omega) _⟩)
      exact OD.out.same (fun k hk => setRow_other _ _ _ _ (hvF k hk))
end Go.Proofs.YtmmcoedgoekhgaaGreatDoor
