/-
  LedgerSpends: the walk (printed by gen_spends.py).
-/
import Derived.Test.YtoomcpehdflolaaGFirst
namespace Go.Proofs.Ytoomcpehdflolaa
open Go.RowKit S Go.Shelf Go.Sort
set_option linter.unusedVariables false
set_option linter.unusedSimpArgs false
theorem Upds.left {w : World} {ad : Option Addr} {l t : List Upd} (h : Upds w ad (l ++ t)) : Upds w ad l := by
  have := h.take l.length
  rwa [List.take_left' rfl] at this
theorem lend2 (ad : Option Addr) (n cap : Nat) (l : List Upd) (hn : l.length = n) (hz : n ≤ 1954687338211) (w : World) (hS : Upds w ad l) : Calls Try.prog 19 #[.slice ad n cap] w fun e w' => (∃ g c, e = .returned (.slice (some ⟨g, 0, none⟩) n c) ∧ OwnU w.heap.size w' (.slice (some ⟨g, 0, none⟩) (n + 1) c) (l ++ [mark7]) ∧ n + 1 ≤ c ∧ g < w'.heap.size ∧ w.heap.size ≤ g) ∧ Below w.heap.size w w' := by
  refine (lend_any ad n cap l hn hz w hS).mono ?_
  rintro e w' ⟨⟨v, rfl, hL⟩, hb⟩
  obtain ⟨g, c, rfl, h1, _, _, h2, h3, h4⟩ := hL.form
  rw [hn] at h1 h2
  exact ⟨⟨g, c, by rw [hn], h1, h2, h3, h4⟩, hb⟩
theorem more2 (ad : Option Addr) (n cap : Nat) (l : List Upd) (hn : l.length = n) (hz : n ≤ 1954687338211) (w : World) (hS : Upds w ad l) : Calls Try.prog 25 #[.slice ad n cap] w fun e w' => (∃ ad' c, e = .returned (.slice ad' n c) ∧ OwnU w.heap.size w' (.slice ad' n c) (l.map flipU) ∧ Upds w' ad' (l.map flipU) ∧ n ≤ c) ∧ Below w.heap.size w w' := by
  refine (more_any ad n cap l hn hz w hS).mono ?_
  rintro e w' ⟨⟨v, rfl, hL⟩, hb⟩
  obtain ⟨ad', c, rfl, h1, _, h2, _⟩ := hL.upds
  have e : (l.map flipU).length = n := by rw [List.length_map, hn]
  rw [e] at hL h2
  exact ⟨⟨ad', c, by rw [e], hL, h1, h2⟩, hb⟩
theorem OwnU.read {B : Nat} {w : World} {g n c : Nat} {l t : List Upd} (h : OwnU B w (.slice (some ⟨g, 0, none⟩) n c) (l ++ t)) : Upds w (some ⟨g, 0, none⟩) (l ++ t) := by
  obtain ⟨ad, c', e, hs, _⟩ := h.upds
  cases e
  exact hs
section
variable {ops : Array Oper} {rest : List Oper} {o : Oper} {a : Act} {w w' : World} {Q : Exit → Act → World → Prop}
theorem wpList_copy {P : Program} {v : Value} (hg : o.guard = none) (s x : Operand) (tys : Array TypeId) (ho : o.op = .call { callee := .builtin .copy, args := #[s, x], argTypes := tys }) (h : (Builtin.copy_ tys o.type #[a.eval s, a.eval x]).run P w = .ok v w') (k : wpList P ops Q rest (a.put o.dst v) w') : wpList P ops Q (o :: rest) a w :=
  wpList_plain hg fun K hK => wpRun (by simp [execOp, ho, resolve, invoke, builtin, h, Result.andThen]) (hK _ _ k)
end
def cnv (x y : Int) : Nat → Value := fun i => .int .i64 (if i = 0 then x else y)
theorem infoC : (Try.prog.info? 24).map (·.size) = some 2 := by kernel_rfl
set_option maxRecDepth 100000 in
set_option maxHeartbeats 4000000 in
theorem spends_walk (base : Int) (a1 a2 : Option Addr) (n1 c1 n2 c2 : Nat) (mine others : List Upd) (hn1 : mine.length = n1) (hn2 : others.length = n2) (z1 : n1 ≤ 1954687338211) (z2 : n2 ≤ 1954687338211) (k1 : n1 ≤ c1) (k2 : n2 ≤ c2) (fO fP : Int) (w : World) (hS1 : Upds w a1 mine) (hS2 : Upds w a2 others) : Calls Try.prog 6 #[.int .i64 base, .slice a1 n1 c1, .slice a2 n2 c2, .agg (tabv (cnv fO fP) 2)] w fun e w' => e = .returned (.bool true) ∧ Below w.heap.size w w' := by
  obtain ⟨m1, hm1⟩ : ∃ m, mine.map flipU = m := ⟨_, rfl⟩
  obtain ⟨m2, hm2⟩ : ∃ m, others.map flipU = m := ⟨_, rfl⟩
  have hl1 : m1.length = n1 := by rw [← hm1, List.length_map, hn1]
  have hl2 : m2.length = n2 := by rw [← hm2, List.length_map, hn2]
  have L1 := hide (fun (w : World) (h : Upds w a1 mine) => lend2 a1 n1 c1 mine hn1 z1 w h)
  have L2 := hide (fun (w : World) (h : Upds w a2 others) => lend2 a2 n2 c2 others hn2 z2 w h)
  have M1 := hide (fun (w : World) (h : Upds w a1 mine) => more2 a1 n1 c1 mine hn1 z1 w h)
  have M2 := hide (fun (w : World) (h : Upds w a2 others) => more2 a2 n2 c2 others hn2 z2 w h)
  rw [hm1] at M1
  rw [hm2] at M2
  have SP := hide (fun (a b : Option Addr) (c d : Nat) (h1 : n1 ≤ c) (h2 : n2 ≤ d) (w : World) (u1 : Upds w a mine) (u2 : Upds w b others) => spend_any base a b n1 c n2 d mine others hn1 hn2 (by omega) (by omega) h1 h2 fO fP w u1 u2)
  have OP := hide (fun (a b : Option Addr) (c d : Nat) (h1 : n1 ≤ c) (h2 : n2 ≤ d) (w : World) (u1 : Upds w a mine) (u2 : Upds w b others) => open_any a b n1 c n2 d mine others hn1 hn2 (by omega) (by omega) h1 h2 fP w u1 u2)
  have SQ := hide (fun (a b : Option Addr) (c d : Nat) (h1 : n1 ≤ c) (h2 : n2 ≤ d) (w : World) (u1 : Upds w a m1) (u2 : Upds w b m2) => spend_any base a b n1 c n2 d m1 m2 hl1 hl2 (by omega) (by omega) h1 h2 fO fP w u1 u2)
  have OQ := hide (fun (a b : Option Addr) (c d : Nat) (h1 : n1 ≤ c) (h2 : n2 ≤ d) (w : World) (u1 : Upds w a m1) (u2 : Upds w b m2) => open_any a b n1 c n2 d m1 m2 hl1 hl2 (by omega) (by omega) h1 h2 fP w u1 u2)
  have RS := hide (fun (w : World) (u1 : Upds w a1 mine) (u2 : Upds w a2 others) => rspend_any base a1 a2 n1 c1 n2 c2 mine others hn1 hn2 (by omega) (by omega) k1 k2 fO fP w u1 u2)
  have RO := hide (fun (w : World) (u1 : Upds w a1 mine) (u2 : Upds w a2 others) => ropen_any a1 a2 n1 c1 n2 c2 mine others hn1 hn2 (by omega) (by omega) k1 k2 fP w u1 u2)
  have RT := hide (fun (a b : Option Addr) (c d : Nat) (h1 : n1 ≤ c) (h2 : n2 ≤ d) (w : World) (u1 : Upds w a m1) (u2 : Upds w b m2) => rspend_any base a b n1 c n2 d m1 m2 hl1 hl2 (by omega) (by omega) h1 h2 fO fP w u1 u2)
  have RP := hide (fun (a b : Option Addr) (c d : Nat) (h1 : n1 ≤ c) (h2 : n2 ≤ d) (w : World) (u1 : Upds w a m1) (u2 : Upds w b m2) => ropen_any a b n1 c n2 d m1 m2 hl1 hl2 (by omega) (by omega) h1 h2 fP w u1 u2)
  have E1 := hide (fun (g c : Nat) (h : n1 + 1 ≤ c) (w : World) (u1 : Upds w (some ⟨g, 0, none⟩) (mine ++ [mark7])) (u2 : Upds w a1 mine) => kept_any a1 g n1 c c1 mine hn1 (by omega) h w u1 u2)
  have E2 := hide (fun (g c : Nat) (h : n2 + 1 ≤ c) (w : World) (u1 : Upds w (some ⟨g, 0, none⟩) (others ++ [mark7])) (u2 : Upds w a2 others) => kept_any a2 g n2 c c2 others hn2 (by omega) h w u1 u2)
  obtain ⟨NA, hNA⟩ : ∃ x, spendA base mine others fO fP = x := ⟨_, rfl⟩
  obtain ⟨KA, hKA⟩ : ∃ x, openN mine others fP = x := ⟨_, rfl⟩
  obtain ⟨NB, hNB⟩ : ∃ x, spendA base m1 m2 fO fP = x := ⟨_, rfl⟩
  obtain ⟨KB, hKB⟩ : ∃ x, openN m1 m2 fP = x := ⟨_, rfl⟩
  rw [hNA] at SP RS
  rw [hKA] at OP RO
  rw [hNB] at SQ RT
  rw [hKB] at OQ RP
  have x1 : (NA != NA) = false := by simp
  have x2 : ((KA : Int) != (KA : Int)) = false := by simp
  have x3 : (NB == NB) = true := by simp
  have x4 : ((KB : Int) == (KB : Int)) = true := by simp
  have HN1 := hide hn1
  have HN2 := hide hn2
  have HL1 := hide hl1
  have HL2 := hide hl2
  obtain ⟨w1, hw1⟩ : ∃ x, w.alloc (.cells (tabv (cnv fO fP) 2) 24) = x := ⟨_, rfl⟩
  have q1 : Has w1 w.heap.size 24 (cnv fO fP) 2 := by rw [← hw1]; exact Has.new w 24 _ 2 _ rfl
  have gb1 : Below w.heap.size w w1 := by rw [← hw1]; exact (Below.refl _ w).alloc (Nat.le_refl _) _
  obtain ⟨g0, hg0⟩ : ∃ g, w.heap.size = g := ⟨_, rfl⟩
  rw [hg0] at q1
  have C1 := hide q1
  clear hm1 hm2 hNA hKA hNB hKB z1 z2 k1 k2 hn1 hn2 hl1 hl2 q1
  go_enter Try.func6, Try.ntmps6
  go_wp2_with fail
  refine (first_any _).mono ?_
  rintro e w2 ⟨rfl, hb2⟩
  have gb2 := gb1.trans (hb2.mono gb1.size)
  have C2 := hide (C1.out.below hb2 C1.out.lt)
  clear hb2 gb1 C1 hw1
  go_wp2_with fail
  refine (L1.out _ (hS1.below gb2)).mono ?_
  rintro e w3 ⟨⟨gx, cx, rfl, ox, hcx, hgx, hge⟩, hb3⟩
  have gb3 := gb2.trans (hb3.mono gb2.size)
  have C3 := hide (C2.out.below hb3 C2.out.lt)
  have hgx0 := Nat.le_trans gb2.size hge
  have hgs : g0 < gx := Nat.lt_of_lt_of_le C2.out.lt hge
  clear hb3 gb2 C2 L1
  go_wp2_with fail
  refine (L2.out _ (hS2.below gb3)).mono ?_
  rintro e w4 ⟨⟨gy, cy, rfl, oy, hcy, hgy, hgey⟩, hb4⟩
  have gb4 := gb3.trans (hb4.mono gb3.size)
  have C4 := hide (C3.out.below hb4 C3.out.lt)
  have hne : gx ≠ gy := by omega
  have hgy0 := Nat.le_trans gb3.size hgey
  have X4 := hide (ox.below hb4 (Nat.le_refl _))
  have Y4 := hide oy
  have HCX := hide hcx
  have HCY := hide hcy
  have NE : Hid (gx ≠ gy ∧ w.heap.size ≤ gx ∧ w.heap.size ≤ gy ∧ g0 < gx ∧ g0 < gy) := ⟨hne, hgx0, hgy0, hgs, by omega⟩
  have hcx' : n1 ≤ cx := by omega
  have hcy' : n2 ≤ cy := by omega
  have CX := hide hcx'
  have CY := hide hcy'
  clear hb4 gb3 C3 L2 ox oy hge hgey hgx0 hgy0 hgx hgy hne hcx' hcy' hcx hcy
  go_wp2_with (first | refine wpW_load_at 24 _ rfl g0 0 (by rfl) (by rfl) _ 2 _ (C4.out.at_ 0 (by omega) (fun i hi => by rw [Nat.zero_add])) Try.underlying24 rfl infoC ?_)
  refine (SP.out _ _ _ _ CX.out CY.out _ X4.out.read.left Y4.out.read.left).mono ?_
  rintro e w5 ⟨rfl, hb5⟩
  have gb5 := gb4.trans (hb5.mono gb4.size)
  have C5 := hide (C4.out.below hb5 C4.out.lt)
  have X5 := hide (X4.out.below hb5 (Nat.le_refl _))
  have Y5 := hide (Y4.out.below hb5 (Nat.le_refl _))
  have t5 : w5.cell? ⟨g0, 1, none⟩ = some (.int .i64 fP) := C5.out.cell 1 (by omega)
  clear hb5 gb4 C4 X4 Y4 SP
  go_wp2_with fail
  refine (OP.out _ _ _ _ CX.out CY.out _ X5.out.read.left Y5.out.read.left).mono ?_
  rintro e w6 ⟨rfl, hb6⟩
  have gb6 := gb5.trans (hb6.mono gb5.size)
  have C6 := hide (C5.out.below hb6 C5.out.lt)
  have X6 := hide (X5.out.below hb6 (Nat.le_refl _))
  have Y6 := hide (Y5.out.below hb6 (Nat.le_refl _))
  have t6 : w6.cell? ⟨g0, 1, none⟩ = some (.int .i64 fP) := C6.out.cell 1 (by omega)
  clear hb6 gb5 C5 X5 Y5 OP t5
  go_wp2_with (first | refine wpW_load_at 24 _ rfl g0 0 (by rfl) (by rfl) _ 2 _ (C6.out.at_ 0 (by omega) (fun i hi => by rw [Nat.zero_add])) Try.underlying24 rfl infoC ?_ | (go_at_call 22; go_must (refine (RS.out w6 (hS1.below gb6) (hS2.below gb6)).mono ?_); rintro e w7 ⟨rfl, hb7⟩; have gb7 := gb6.trans (hb7.mono gb6.size); have C7 := hide (C6.out.below hb7 C6.out.lt); have X7 := hide (X6.out.below hb7 (Nat.le_refl _)); have Y7 := hide (Y6.out.below hb7 (Nat.le_refl _)); have t7 : w7.cell? ⟨g0, 1, none⟩ = some (.int .i64 fP) := C7.out.cell 1 (by omega); clear hb7) | (go_at_call 23; go_must (refine (RO.out w7 (hS1.below gb7) (hS2.below gb7)).mono ?_); rintro e w8 ⟨rfl, hb8⟩; have gb8 := gb7.trans (hb8.mono gb7.size); have C8 := hide (C7.out.below hb8 C7.out.lt); have X8 := hide (X7.out.below hb8 (Nat.le_refl _)); have Y8 := hide (Y7.out.below hb8 (Nat.le_refl _)); clear hb8))
  refine (E1.out _ _ HCX.out _ X8.out.read (hS1.below gb8)).mono ?_
  rintro e w9 ⟨rfl, hb9⟩
  have gb9 := gb8.trans (hb9.mono gb8.size)
  have C9 := hide (C8.out.below hb9 C8.out.lt)
  have X9 := hide (X8.out.below hb9 (Nat.le_refl _))
  have Y9 := hide (Y8.out.below hb9 (Nat.le_refl _))
  clear hb9 gb6 gb7 gb8 C6 C7 C8 X6 X7 X8 Y6 Y7 Y8 t6 t7 E1 RS RO
  go_wp2_with fail
  refine (E2.out _ _ HCY.out _ Y9.out.read (hS2.below gb9)).mono ?_
  rintro e wA ⟨rfl, hbA⟩
  have gbA := gb9.trans (hbA.mono gb9.size)
  have CA := hide (C9.out.below hbA C9.out.lt)
  have XA := hide (X9.out.below hbA (Nat.le_refl _))
  have YA := hide (Y9.out.below hbA (Nat.le_refl _))
  clear hbA gb9 C9 X9 Y9 E2
  go_wp2_with fail
  refine (M1.out _ (hS1.below gbA)).mono ?_
  rintro e wB ⟨⟨ad5, c5, rfl, o5, _, _⟩, hbB⟩
  have gbB := gbA.trans (hbB.mono gbA.size)
  have CB := hide (CA.out.below hbB CA.out.lt)
  have XB := hide (XA.out.below hbB (Nat.le_refl _))
  have YB := hide (YA.out.below hbB (Nat.le_refl _))
  have xB := by have h := XB.out; rw [← HN1.out] at h; exact h
  obtain ⟨wC, rC, oC, kC⟩ := run_copyU wB 3 gx cx _ _ (.slice ad5 n1 c5) mine m1 [mark7] xB o5 (by rw [HL1.out, HN1.out])
  rw [HN1.out] at rC oC
  have RC := hide rC
  have gbC : Below w.heap.size w wC := gbB.trans (kC.below gbB.size (fun k hk e => by have := NE.out; omega))
  have CC := hide (CB.out.keep kC (fun e => by have := NE.out; omega))
  have XC := hide oC
  have YC : Hid (OwnU w3.heap.size wC (.slice (some ⟨gy, 0, none⟩) (n2 + 1) cy) (others ++ [mark7])) := YB.out.same fun k hk => kC.block k (YB.out.lt k hk).2 (fun e => by cases hk; exact NE.out.1 e.symm)
  clear hbB gbA gbB CA CB XA YA XB YB rC oC kC xB o5
  go_wp2_with (first | refine wpList_copy rfl _ _ _ rfl RC.out ?_)
  refine (M2.out _ (hS2.below gbC)).mono ?_
  rintro e wD ⟨⟨ad6, c6, rfl, o6, _, _⟩, hbD⟩
  have gbD := gbC.trans (hbD.mono gbC.size)
  have CD := hide (CC.out.below hbD CC.out.lt)
  have XD := hide (XC.out.below hbD (Nat.le_refl _))
  have YD := hide (YC.out.below hbD (Nat.le_refl _))
  have yD : OwnU w3.heap.size wD (.slice (some ⟨gy, 0, none⟩) (others.length + [mark7].length) cy) (others ++ [mark7]) := by have h := YD.out; rw [← HN2.out] at h; exact h
  obtain ⟨wE, rE, oE, kE⟩ := run_copyU wD 3 gy cy _ _ (.slice ad6 n2 c6) others m2 [mark7] yD o6 (by rw [HL2.out, HN2.out])
  rw [HN2.out] at rE oE
  have RE := hide rE
  have gbE : Below w.heap.size w wE := gbD.trans (kE.below gbD.size (fun k hk e => by have := NE.out; omega))
  have CE := hide (CD.out.keep kE (fun e => by have := NE.out; omega))
  have YE := hide oE
  have XE : Hid (OwnU w2.heap.size wE (.slice (some ⟨gx, 0, none⟩) (n1 + 1) cx) (m1 ++ [mark7])) := XD.out.same fun k hk => kE.block k (XD.out.lt k hk).2 (fun e => by cases hk; exact NE.out.1 e)
  clear hbD gbC gbD CC CD XC YC XD YD rE oE kE yD o6 RC
  go_wp2_with (first | refine wpList_copy rfl _ _ _ rfl RE.out ?_ | refine wpW_load_at 24 _ rfl g0 0 (by rfl) (by rfl) _ 2 _ (CE.out.at_ 0 (by omega) (fun i hi => by rw [Nat.zero_add])) Try.underlying24 rfl infoC ?_)
  refine (SQ.out _ _ _ _ CX.out CY.out _ XE.out.read.left YE.out.read.left).mono ?_
  rintro e wF ⟨rfl, hbF⟩
  have gbF := gbE.trans (hbF.mono gbE.size)
  have CF := hide (CE.out.below hbF CE.out.lt)
  have XF := hide (XE.out.below hbF (Nat.le_refl _))
  have YF := hide (YE.out.below hbF (Nat.le_refl _))
  have tF : wF.cell? ⟨g0, 1, none⟩ = some (.int .i64 fP) := CF.out.cell 1 (by omega)
  clear hbF gbE CE XE YE SQ RE
  go_wp2_with fail
  refine (OQ.out _ _ _ _ CX.out CY.out _ XF.out.read.left YF.out.read.left).mono ?_
  rintro e wG ⟨rfl, hbG⟩
  have gbG := gbF.trans (hbG.mono gbF.size)
  have CG := hide (CF.out.below hbG CF.out.lt)
  clear hbG gbF CF XF YF OQ tF CX CY HCX HCY
  go_wp2
  refine wp_region_noPanic ?_
  refine wp_region_held_drew (S := fun wx => Below wG.heap.size wG wx) (by kernel_rfl) ((Below.refl _ _).drew) (fun hHeld => ?_)
  refine takeH 0 (some 75) (.int .i64 NB) rfl rfl (by kernel_rfl) (by kernel_rfl) (by kernel_rfl) (fun _ _ _ h => h) (by rfl) (fun w hw => by first | rfl | (go_simp; done) | (go_simp; rfl) | (go_simp; omega)) hHeld ?_
  simp only [Act.put, List.setIfInBounds_toArray, List.set_cons_zero, List.set_cons_succ]
  refine takeH 1 (some 76) (.int .i64 base) rfl rfl (by kernel_rfl) (by kernel_rfl) (by kernel_rfl) (fun _ _ _ h => h) (by rfl) (fun w hw => by first | rfl | (go_simp; done) | (go_simp; rfl) | (go_simp; omega)) hHeld ?_
  simp only [Act.put, List.setIfInBounds_toArray, List.set_cons_zero, List.set_cons_succ]
  refine takeH 2 (some 77) (.slice a1 n1 c1) rfl rfl (by kernel_rfl) (by kernel_rfl) (by kernel_rfl) (fun _ _ _ h => h) (by rfl) (fun w hw => by first | rfl | (go_simp; done) | (go_simp; rfl) | (go_simp; omega)) hHeld ?_
  simp only [Act.put, List.setIfInBounds_toArray, List.set_cons_zero, List.set_cons_succ]
  refine takeH 4 (some 79) (.slice a2 n2 c2) rfl rfl (by kernel_rfl) (by kernel_rfl) (by kernel_rfl) (fun _ _ _ h => h) (by rfl) (fun w hw => by first | rfl | (go_simp; done) | (go_simp; rfl) | (go_simp; omega)) hHeld ?_
  simp only [Act.put, List.setIfInBounds_toArray, List.set_cons_zero, List.set_cons_succ]
  refine takeH 6 (some 81) (.agg (tabv (cnv fO fP) 2)) rfl rfl (by kernel_rfl) (by kernel_rfl) (by kernel_rfl) (fun _ _ _ h => h) (by rfl) (fun w hw => run_load_at w 24 _ rfl g0 0 (by rfl) _ 2 _ ((CG.out.below hw CG.out.lt).at_ 0 (by omega) (fun i hi => by rw [Nat.zero_add])) Try.underlying24 rfl infoC) hHeld ?_
  simp only [Act.put, List.setIfInBounds_toArray, List.set_cons_zero, List.set_cons_succ]
  refine wpAnyH_ready (rs := [3]) (by kernel_rfl) (by simp) (AllReadyH.cons rfl (fun K hK => ?_) AllReadyH.nil)
  rw [if_pos (by rfl)]
  go_simp
  refine (M1.out _ (hS1.below (gbG.trans (hHeld.mono gbG.size)))).mono ?_
  rintro e wH ⟨⟨ad7, c7, rfl, o7, u7, h7⟩, hbH⟩
  try go_wp2_with fail
  refine hK.out _ _ (hHeld.trans (hbH.mono hHeld.size)) (fun hH => ?_)
  clear hK K hHeld
  have hHeld := hH
  clear hH
  refine wpAnyH_ready (rs := [5]) (by kernel_rfl) (by simp) (AllReadyH.cons rfl (fun K hK => ?_) AllReadyH.nil)
  rw [if_pos (by rfl)]
  go_simp
  refine (M2.out _ (hS2.below (gbG.trans (hHeld.mono gbG.size)))).mono ?_
  rintro e wI ⟨⟨ad8, c8, rfl, o8, u8, h8⟩, hbI⟩
  try go_wp2_with fail
  refine hK.out _ _ (hHeld.trans (hbI.mono hHeld.size)) (fun hH => ?_)
  clear hK K hHeld
  have hHeld := hH
  clear hH
  refine wpAnyH_ready (rs := [7]) (by kernel_rfl) (by simp) (AllReadyH.cons rfl (fun K hK => ?_) AllReadyH.nil)
  rw [if_pos (by rfl)]
  go_simp
  refine (RT.out _ _ _ _ h7 h8 _ (u7.below hbI) u8).mono ?_
  rintro e wJ ⟨rfl, hbJ⟩
  try go_wp2_with fail
  refine hK.out _ _ (hHeld.trans (hbJ.mono hHeld.size)) (fun hH => ?_)
  clear hK K hHeld
  have hHeld := hH
  clear hH
  refine takeH 8 (some 83) (.bool true) rfl rfl (by kernel_rfl) (by kernel_rfl) (by kernel_rfl) (fun _ _ _ h => h) (by rfl) (fun w hw => by first | rfl | (go_simp; done) | (go_simp; rfl) | (go_simp; omega)) hHeld ?_
  simp only [Act.put, List.setIfInBounds_toArray, List.set_cons_zero, List.set_cons_succ]
  refine takeH 9 (some 84) (.bool true) rfl rfl (by kernel_rfl) (by kernel_rfl) (by kernel_rfl) (fun _ _ _ h => h) (by rfl) (fun w hw => by first | rfl | (go_simp; done) | (go_simp; rfl) | (go_simp; omega)) hHeld ?_
  simp only [Act.put, List.setIfInBounds_toArray, List.set_cons_zero, List.set_cons_succ]
  refine takeH 10 (some 85) (.int .i64 (KB : Int)) rfl rfl (by kernel_rfl) (by kernel_rfl) (by kernel_rfl) (fun _ _ _ h => h) (by rfl) (fun w hw => by first | rfl | (go_simp; done) | (go_simp; rfl) | (go_simp; omega)) hHeld ?_
  simp only [Act.put, List.setIfInBounds_toArray, List.set_cons_zero, List.set_cons_succ]
  refine takeH 11 (some 86) (.slice a1 n1 c1) rfl rfl (by kernel_rfl) (by kernel_rfl) (by kernel_rfl) (fun _ _ _ h => h) (by rfl) (fun w hw => by first | rfl | (go_simp; done) | (go_simp; rfl) | (go_simp; omega)) hHeld ?_
  simp only [Act.put, List.setIfInBounds_toArray, List.set_cons_zero, List.set_cons_succ]
  refine takeH 13 (some 88) (.slice a2 n2 c2) rfl rfl (by kernel_rfl) (by kernel_rfl) (by kernel_rfl) (fun _ _ _ h => h) (by rfl) (fun w hw => by first | rfl | (go_simp; done) | (go_simp; rfl) | (go_simp; omega)) hHeld ?_
  simp only [Act.put, List.setIfInBounds_toArray, List.set_cons_zero, List.set_cons_succ]
  refine takeH 15 (some 90) (.pointer (some ⟨g0, 1, none⟩)) rfl rfl (by kernel_rfl) (by kernel_rfl) (by kernel_rfl) (fun _ _ _ h => h) (by rfl) (fun w hw => by first | rfl | (go_simp; done) | (go_simp; rfl) | (go_simp; omega)) hHeld ?_
  simp only [Act.put, List.setIfInBounds_toArray, List.set_cons_zero, List.set_cons_succ]
  refine takeH 16 (some 91) (.int .i64 fP) rfl rfl (by kernel_rfl) (by kernel_rfl) (by kernel_rfl) (fun _ _ _ h => h) (by rfl) (fun w hw => by have cc := ((CG.out.below hw CG.out.lt).cell 1 (by omega)); first | rfl | (go_simp; done) | (go_simp; rfl) | (go_simp; omega)) hHeld ?_
  simp only [Act.put, List.setIfInBounds_toArray, List.set_cons_zero, List.set_cons_succ]
  refine wpAnyH_ready (rs := [12]) (by kernel_rfl) (by simp) (AllReadyH.cons rfl (fun K hK => ?_) AllReadyH.nil)
  rw [if_pos (by rfl)]
  go_simp
  refine (M1.out _ (hS1.below (gbG.trans (hHeld.mono gbG.size)))).mono ?_
  rintro e wK ⟨⟨ad9, c9, rfl, o9, u9, h9⟩, hbK⟩
  try go_wp2_with fail
  refine hK.out _ _ (hHeld.trans (hbK.mono hHeld.size)) (fun hH => ?_)
  clear hK K hHeld
  have hHeld := hH
  clear hH
  refine wpAnyH_ready (rs := [14]) (by kernel_rfl) (by simp) (AllReadyH.cons rfl (fun K hK => ?_) AllReadyH.nil)
  rw [if_pos (by rfl)]
  go_simp
  refine (M2.out _ (hS2.below (gbG.trans (hHeld.mono gbG.size)))).mono ?_
  rintro e wL ⟨⟨adA, cA, rfl, oA, uA, hA⟩, hbL⟩
  try go_wp2_with fail
  refine hK.out _ _ (hHeld.trans (hbL.mono hHeld.size)) (fun hH => ?_)
  clear hK K hHeld
  have hHeld := hH
  clear hH
  refine wpAnyH_ready (rs := [17]) (by kernel_rfl) (by simp) (AllReadyH.cons rfl (fun K hK => ?_) AllReadyH.nil)
  rw [if_pos (by rfl)]
  go_simp
  refine (RP.out _ _ _ _ h9 hA _ (u9.below hbL) uA).mono ?_
  rintro e wM ⟨rfl, hbM⟩
  try go_wp2_with fail
  refine hK.out _ _ (hHeld.trans (hbM.mono hHeld.size)) (fun hH => ?_)
  clear hK K hHeld
  have hHeld := hH
  clear hH
  refine takeH 18 (some 93) (.bool true) rfl rfl (by kernel_rfl) (by kernel_rfl) (by kernel_rfl) (fun _ _ _ h => h) (by rfl) (fun w hw => by first | rfl | (go_simp; done) | (go_simp; rfl) | (go_simp; omega)) hHeld ?_
  simp only [Act.put, List.setIfInBounds_toArray, List.set_cons_zero, List.set_cons_succ]
  refine takeH 19 (some 94) (.bool true) rfl rfl (by kernel_rfl) (by kernel_rfl) (by kernel_rfl) (fun _ _ _ h => h) (by rfl) (fun w hw => by first | rfl | (go_simp; done) | (go_simp; rfl) | (go_simp; omega)) hHeld ?_
  simp only [Act.put, List.setIfInBounds_toArray, List.set_cons_zero, List.set_cons_succ]
  refine takeH 20 (some 8) (.bool true) rfl rfl (by kernel_rfl) (by kernel_rfl) (by kernel_rfl) (fun _ _ _ h => h) (by rfl) (fun w hw => by first | rfl | (go_simp; done) | (go_simp; rfl) | (go_simp; omega)) hHeld ?_
  simp only [Act.put, List.setIfInBounds_toArray, List.set_cons_zero, List.set_cons_succ]
  refine ⟨by kernel_rfl, ?_⟩
  refine NoPanic.normal ?_
  try go_wp2
  go_ret
  exact ⟨rfl, gbG.trans (hHeld.mono gbG.size)⟩
end Go.Proofs.Ytoomcpehdflolaa
