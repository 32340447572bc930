/-
  LedgerMore: the walk (printed by gen_more.py).
-/
import Derived.Test.YtoomcpehdflolaaGViews
import Derived.Test.YtoomcpehdflolaaGMoreM
import Derived.Deep.CutRange
namespace Go.Proofs.Ytoomcpehdflolaa
open Go.RowKit S Go.Shelf Go.Sort
set_option linter.unusedVariables false
set_option linter.unusedSimpArgs false
theorem run_appUU (w : World) (B : Nat) (v : Value) (l news : List Upd) (ad : Option Addr) (cap : Nat) (ty : TypeId) (hown : OwnU B w v l) (hS : Upds w ad news) (hn : ad = none → news = []) (hsz : (l.length + news.length) * 72 ≤ 140737488355328) (hB : B ≤ w.heap.size) :
    ∃ v' w', (Builtin.append_ #[22, 22] ty #[v, .slice ad news.length cap]).run Try.prog w = .ok v' w' ∧ OwnU B w' v' (l ++ news) ∧ w.grownBy w' v.ownBlock := by
  obtain ⟨i, h1, h2, h3, h4⟩ := infoUP
  cases ad with
  | none =>
    have := hn rfl
    subst this
    refine ⟨v, w, ?_, by rw [List.append_nil]; exact hown, ⟨rfl, rfl, rfl, Nat.le_refl _, fun _ _ _ => rfl⟩⟩
    obtain ⟨_, ⟨rfl, _⟩ | ⟨g, c, cur, rfl, hb, hg, q1, q2, q3, q4⟩⟩ := hown
    · simp [Builtin.append_, run_underlying Try.underlying22, sizeOf, typeInfo, h1, Builtin.lenOf, Builtin.firstCells, storeCells, loadCells, loadCellsFrom]
    · simp [Builtin.append_, run_underlying Try.underlying22, sizeOf, typeInfo, h1, Builtin.lenOf, Builtin.firstCells, storeCells, loadCells, loadCellsFrom, q1]
  | some a =>
    obtain ⟨v', w', e1, e2, e3, _⟩ := run_append_own (P := Try.prog) w B 22 ty 39 i _ 36 72 Try.underlying22 h1 h2 h3 h4 (by rfl) (by omega) v l.length (cellsU l) hown a news.length cap (cellsU news) (cellsU_length news)
      (fun j u hj => by
        have hjl : j < news.length * 36 := by have := (List.getElem?_eq_some_iff.1 hj).1; rw [cellsU_length] at this; exact this
        rcases hS with rfl | ⟨b, o, ha, _, h⟩
        · simp at hjl
        · cases ha
          have hk : j / 36 < news.length := by omega
          have hs : news[j / 36]? = some news[j / 36] := List.getElem?_eq_getElem hk
          have hc := h (j / 36) _ hs (j % 36) (by omega)
          have hg := cellsU_get news (j / 36) _ hs (j % 36) (by omega)
          rw [show j / 36 * 36 + j % 36 = j by omega, hj] at hg
          have hadd : (⟨b, o, none⟩ : Addr).add j = ⟨b, o + j, none⟩ := by unfold Addr.add; split <;> simp_all
          rw [hadd, hg, ← hc, show o + j / 36 * 36 + j % 36 = o + j by omega])
      (oneCell_U _) (by unfold maxLen; omega) hsz hB
    refine ⟨v', w', e1, ?_, e3⟩
    unfold OwnU
    rw [List.length_append, cellsU_append]
    exact e2
theorem run_slice0 (w : World) : ∃ w', (Instr.buildSlice 22 0 #[]).run Try.prog w = .ok (.slice (some ⟨w.heap.size, 0, none⟩) 0 0) w' ∧ OwnU w.heap.size w' (.slice (some ⟨w.heap.size, 0, none⟩) 0 0) [] ∧ Below w.heap.size w w' := by
  obtain ⟨i, h1, h2, h3, h4⟩ := infoUP
  refine ⟨w.alloc (.cells #[] 39), ?_, ⟨rfl, .inr ⟨w.heap.size, 0, #[], rfl, Nat.le_refl _, heap_alloc_new w _, Nat.le_refl _, by decide, rfl, rfl⟩⟩, (Below.refl _ _).alloc (Nat.le_refl _) _⟩
  simp only [Instr.buildSlice, Sem.run_bind, run_underlying Try.underlying22, Result.andThen_ok, sizeOf, typeInfo, h1, h3]
  simp [zeroValue, typeInfo, h1, h2, newRow, Instr.fill]
  have e : Array.map (fun (_ : Nat) => (default : Value)) (Array.range 0) = #[] := by first | rfl | (apply Array.ext <;> simp) | (simp [Array.range])
  first | rw [e] | (congr 2)
section
variable {P : Program} {o : Oper} {a : Act} {w w' : World} {v : Value} {K : Act → World → Prop} {Q : Exit → Act → World → Prop}
theorem wp_app (s x : Operand) (tys : Array TypeId) (ho : o.op = .call { callee := .builtin .append, args := #[s, x], argTypes := tys }) (h : (Builtin.append_ tys o.type #[a.eval s, a.eval x]).run P w = .ok v w') (d : Option Tmp) (hd : o.dst = d) (k : K (a.put d v) w') : o.wp P a w K Q := by
  subst hd
  exact wpRun (by simp [execOp, ho, resolve, invoke, builtin, h, Result.andThen]) k
theorem wp_slice1 (T : TypeId) (x : Operand) (ho : o.op = .buildSlice T 1 #[(0, x)]) (y : Value) (hy : a.eval x = y) (h : (Instr.buildSlice T 1 #[(0, y)]).run P w = .ok v w') (d : Option Tmp) (hd : o.dst = d) (k : K (a.put d v) w') : o.wp P a w K Q := by
  subst hd
  exact wpRun (by simp [execOp, ho, hy, h, Result.andThen]) k
theorem wp_slice0 (T : TypeId) (ho : o.op = .buildSlice T 0 #[]) (h : (Instr.buildSlice T 0 #[]).run P w = .ok v w') (d : Option Tmp) (hd : o.dst = d) (k : K (a.put d v) w') : o.wp P a w K Q := by
  subst hd
  exact wpRun (by simp [execOp, ho, h, Result.andThen]) k
end
theorem run_buildQ {o : Oper} {a : Act} (w : World) (T : TypeId) (ps : Array (Nat × Operand)) (ho : o.op = .build T ps) (vals : List (Nat × Value)) (he : (ps.map fun (i, y) => (i, a.eval y)).toList = vals) (cs : Array Value) (hb : Try.prog.built T vals = some cs) : (execOp a.eval o).run Try.prog w = .ok (.value (.agg cs)) w := by
  unfold execOp
  simp only [ho, Sem.run_bind, run_build w T _ cs (by rw [he]; exact hb), Result.andThen_ok]
  rfl
theorem run_eqP {o : Oper} {a : Act} (w : World) (x y : Operand) (s t : Pen) (R : Bool) (ho : o.op = .binOp .eql 42 x y 42) (hx : a.eval x = .agg (tabv s.v 35)) (hy : a.eval y = .agg (tabv t.v 35))
    (hq : ∀ w : World, (Op.equalIn 10000 42 (.agg (tabv s.v 35)) (.agg (tabv t.v 35))).run Try.prog w = .ok R w) : (execOp a.eval o).run Try.prog w = .ok (.value (.bool R)) w := by
  have gh := guardP
  unfold execOp
  simp only [ho, hx, hy]
  go_simp
set_option maxRecDepth 100000 in
theorem built_uN (i m : Int) : Try.prog.built 39 [(0, .int .i64 1), (1, .int .i64 i), (2, .int .i64 m)] = some (tabv (⟨1, i, m, fun _ => 0, nilB⟩ : Upd).v 36) := by kernel_rfl
set_option maxRecDepth 100000 in
theorem built_pN (i m : Int) : Try.prog.built 42 [(0, .bool true), (1, .int .i64 i), (2, .int .i64 m)] = some (tabv (⟨true, i, m, fun _ => 0⟩ : Pen).v 35) := by kernel_rfl
set_option maxRecDepth 100000 in
set_option maxHeartbeats 4000000 in
theorem more_walk (a b : Int) (a1 a2 : Option Addr) (n1 c1 n2 c2 : Nat) (ours peers : List Upd) (hn1 : ours.length = n1) (hn2 : peers.length = n2) (z1 : n1 ≤ 1954687338211) (z2 : n2 ≤ 1954687338211) (x y amount : Int) (w : World) (hS1 : Upds w a1 ours) (hS2 : Upds w a2 peers) : Calls Try.prog 3 #[.int .i64 a, .int .i64 b, .slice a1 n1 c1, .slice a2 n2 c2, .agg (tabv (cnv x y) 2), .int .i64 amount] w fun e w' => e = .returned (.bool true) ∧ Below w.heap.size w w' := by
  obtain ⟨m1, hm1⟩ : ∃ m, ours.map madeU = m := ⟨_, rfl⟩
  obtain ⟨m2, hm2⟩ : ∃ m, peers.map madeU = m := ⟨_, rfl⟩
  have hl1 : m1.length = n1 := by rw [← hm1, List.length_map, hn1]
  have hl2 : m2.length = n2 := by rw [← hm2, List.length_map, hn2]
  obtain ⟨A, hA⟩ : ∃ A, baseI a = A := ⟨_, rfl⟩
  obtain ⟨Bb, hB⟩ : ∃ A, baseI b = A := ⟨_, rfl⟩
  have bA := baseI_bd a
  have bB := baseI_bd b
  rw [hA] at bA
  rw [hB] at bB
  have BS := hide (fun (w : World) => bases_any a b w)
  rw [hA, hB] at BS
  obtain ⟨kO, kP, lO, lP, hcnt⟩ := counts_any x y n1 n2 (by omega) (by omega)
  have CN := hide hcnt
  have M1 := hide (fun (w : World) (h : Upds w a1 ours) => made2 a1 n1 c1 ours hn1 (by omega) w h)
  have M2 := hide (fun (w : World) (h : Upds w a2 peers) => made2 a2 n2 c2 peers hn2 (by omega) w h)
  rw [hm1] at M1
  rw [hm2] at M2
  obtain ⟨P, hP⟩ : ∃ P, m1.take kO = P := ⟨_, rfl⟩
  obtain ⟨Q, hQ⟩ : ∃ Q, m2.take kP = Q := ⟨_, rfl⟩
  have vP : (m1.take kO).all validB = true := by rw [← hm1]; exact made_all ours kO
  have vQ : (m2.take kP).all validB = true := by rw [← hm2]; exact made_all peers kP
  obtain ⟨X, hX⟩ : ∃ X, balX A P Q = X := ⟨_, rfl⟩
  obtain ⟨Y, hY⟩ : ∃ Y, balY Bb P Q = Y := ⟨_, rfl⟩
  have FG := fun (d1 d2 : Option Addr) (e1 e2 : Nat) (h1 : n1 ≤ e1) (h2 : n2 ≤ e2) => foldG A Bb bA bB d1 d2 n1 e1 n2 e2 m1 m2 hl1 hl2 (by omega) (by omega) h1 h2 kO kP lO lP vP vQ P Q hP hQ X Y hX hY
  have HW : Hid (X + Y + sumP (foldL P Q) = A + Bb) := by have := bal_whole A Bb P Q; rw [hX, hY] at this; exact this
  have HAB : Hid (True ∧ A + Bb ≤ 2305843009213693952) := ⟨trivial, by omega⟩
  have zAB : IntKind.i64.wrap (A + Bb) = A + Bb := by rw [IntKind.wrap_i64]; omega
  have HLEN : Hid ((foldL P Q).length ≤ 3910000000000) := by
    show _ ≤ _
    unfold foldL
    have e1 := opens_len true Q P
    have e2 := opens_len false P Q
    have e3 : P.length ≤ n1 := by rw [← hP, List.length_take]; omega
    have e4 : Q.length ≤ n2 := by rw [← hQ, List.length_take]; omega
    rw [List.length_append, sortP_length, sortP_length]
    omega
  have FG' := hide FG
  obtain ⟨T, hT⟩ : ∃ T, top Q = T := ⟨_, rfl⟩
  have hT0 : 0 ≤ T := by rw [← hT]; exact top_ge Q
  have hT1 : T ≤ 2048 := by rw [← hT]; exact top_le Q (by rw [← hQ]; exact vQ)
  have hTr : remK Q T = 0 := by rw [← hT]; exact top_rem Q
  obtain ⟨M, hM⟩ : ∃ M, amI amount = M := ⟨_, rfl⟩
  have hMb := amI_bd amount
  rw [hM] at hMb
  have eM : bits .and .i64 amount 1152921504606846975 = M - 1 := by rw [← hM]; unfold amI; omega
  obtain ⟨uN, huN⟩ : ∃ u : Upd, u = ⟨1, T, M, fun _ => 0, nilB⟩ := ⟨_, rfl⟩
  have lPl : P.length = kO := by rw [← hP, List.length_take]; omega
  have FN := hide (fun (hT2 : T ≤ 2047) (d1 d2 : Option Addr) (e1 e2 : Nat) (h1 : kO + 1 ≤ e1) (h2 : n2 ≤ e2) =>
    have hv : validB uN = true := by
      rw [huN]
      have i0 : decide (T < 0) = false := decide_eq_false (by omega)
      have i1 : decide (2048 ≤ T) = false := decide_eq_false (by omega)
      have i2 : decide (1 ≤ M) = true := decide_eq_true (by omega)
      have i3 : decide (M ≤ 1152921504606846976) = true := decide_eq_true (by omega)
      have n0 : nilB.toList.isEmpty = true := by decide +kernel
      unfold validB noteE
      simp [i0, i1, i2, i3, n0]
    have ha : addB uN = true := by unfold addB; rw [hv, huN]; rfl
    have hr : remK Q uN.id = 0 := by rw [huN]; exact hTr
    have ht : (P ++ [uN]).take (kO + 1) = P ++ [uN] := List.take_of_length_le (by rw [List.length_append, lPl]; simp)
    And.intro (foldG A Bb bA bB d1 d2 (kO + 1) e1 n2 e2 (P ++ [uN]) m2 (by rw [List.length_append, lPl]; rfl) hl2 (by omega) (by omega) h1 h2 (kO + 1) kP (Nat.le_refl _) lP (by rw [ht, List.all_append, ← hP, vP]; simp [hv]) vQ (P ++ [uN]) Q ht hQ (X - M) Y (by rw [more_balX ha hr, hX, huN]) (by rw [more_balY ha hr, hY]))
      (And.intro (more_len (P := P) ha hr) (And.intro (more_mem (P := P) ha hr) (show X - M + Y + sumP (foldL (P ++ [uN]) Q) = A + Bb by have h := bal_whole A Bb (P ++ [uN]) Q; rw [more_balX ha hr, more_balY ha hr, hX, hY, huN] at h; rw [huN]; exact h))))
  have HT : Hid (top (m2.take kP) = T ∧ 0 ≤ T ∧ T ≤ 2048) := ⟨by rw [hQ]; exact hT, hT0, hT1⟩
  have HM : Hid (1 ≤ M ∧ M ≤ 1152921504606846976) := hMb
  have HUN := hide huN
  have hkPi : (kP : Int) ≤ 140737488351232 := by omega
  have HPl : Hid (P.length = kO ∧ kO ≤ 1954687338211 ∧ kP ≤ n2 ∧ kO ≤ n1) := ⟨lPl, by omega, lP, lO⟩
  have HPP := hide hP
  have HVQ := hide vQ
  have HXYb : Hid (X ≤ A + Bb → Y ≤ A + Bb → A + Bb ≤ 1152921504606846974) := fun _ _ => by omega
  have HABs : Hid (A + Bb ≤ 1152921504606846974) := by show _ ≤ _; omega
  have zM : IntKind.i64.wrap (1 + (M - 1)) = M := by rw [IntKind.wrap_i64]; omega
  obtain ⟨w1, hw1⟩ : ∃ z, w.alloc (.cells (tabv (cnv x y) 2) 24) = z := ⟨_, rfl⟩
  have q1 : Has w1 w.heap.size 24 (cnv x y) 2 := by rw [← hw1]; exact Has.new w 24 _ 2 _ rfl
  have gb1 : Below w.heap.size w w1 := by rw [← hw1]; exact (Below.refl _ w).alloc (Nat.le_refl _) _
  obtain ⟨g0, hg0⟩ : ∃ g, w.heap.size = g := ⟨_, rfl⟩
  rw [hg0] at q1
  have C1 := hide q1
  have hn0 : (0 : Int) ≤ (n1 : Int) := by omega
  clear FG hm1 hm2 hn1 hn2 hA hB bA bB hcnt lO lP hP hQ vP vQ hX hY q1 z1 z2 hT hT0 hT1 hTr hM hMb huN lPl
  go_enter Try.func3, Try.ntmps3
  go_wp2_with fail
  refine (first_any _).mono ?_
  rintro e w2 ⟨rfl, hb2⟩
  have gb2 := gb1.trans (hb2.mono gb1.size)
  have C2 := hide (C1.out.below hb2 C1.out.lt)
  clear hb2 gb1 C1 hw1
  go_wp2_with fail
  refine (BS.out _).mono ?_
  rintro e wx ⟨rfl, hx⟩
  obtain rfl := hx.symm
  clear hx BS
  go_wp2_with fail
  refine (M1.out _ (hS1.below gb2)).mono ?_
  rintro e w3 ⟨⟨ad3, c3, rfl, u3, h3, n3⟩, hb3⟩
  have hnu1 : Hid (∀ x, ad3 = some x → g0 < x.block) := fun x hx => Nat.lt_of_lt_of_le C2.out.lt (n3 x hx)
  clear n3
  have gb3 := gb2.trans (hb3.mono gb2.size)
  have C3 := hide (C2.out.below hb3 C2.out.lt)
  clear hb3 gb2 C2 M1
  go_wp2_with fail
  refine (M2.out _ (hS2.below gb3)).mono ?_
  rintro e w4 ⟨⟨ad4, c4, rfl, u4, h4, n4⟩, hb4⟩
  have hnu2 : Hid (∀ x, ad4 = some x → g0 < x.block) := fun x hx => Nat.lt_of_lt_of_le C3.out.lt (n4 x hx)
  clear n4
  have gb4 := gb3.trans (hb4.mono gb3.size)
  have C4 := hide (C3.out.below hb4 C3.out.lt)
  have U4 := hide (u3.below hb4)
  have T4 := hide u4
  have FGG := FG'.out ad3 ad4 c3 c4 h3 h4
  have H34 : Hid (n1 ≤ c3 ∧ n2 ≤ c4) := ⟨h3, h4⟩
  clear hb4 gb3 C3 M2 u3 u4 FG' h3 h4
  go_wp2_with (first | refine wpW_load_at 24 _ rfl g0 0 (by rfl) (by rfl) _ 2 _ (C4.out.at_ 0 (by omega) (fun i hi => by rw [Nat.zero_add])) Try.underlying24 rfl infoC ?_)
  refine (CN.out _).mono ?_
  rintro e w5 ⟨rfl, hb5⟩
  obtain ⟨w7, hW7⟩ : ∃ z, w5.setRow g0 (tabv (cnv kO kP) 2) = z := ⟨_, rfl⟩
  have c5 := C4.out.below hb5 C4.out.lt
  have kp : Keep (· = g0) w5 w7 := by rw [← hW7]; exact ⟨rfl, rfl, rfl, by simp, fun k hk hne => setRow_other w5 g0 k _ hne⟩
  have gb5 := gb4.trans (hb5.mono gb4.size)
  have gb7 : Below w.heap.size w w7 := gb5.trans (kp.below gb5.size (fun k hk e => by omega))
  have C5 := hide c5
  have C7 : Hid (Has w7 g0 24 (cnv kO kP) 2) := by rw [← hW7]; exact c5.row _ _ rfl
  have U7 : Hid (Upds w7 ad3 m1) := (U4.out.below hb5).keepU kp (fun x hx e => by have := hnu1.out x hx; omega)
  have T7 : Hid (Upds w7 ad4 m2) := (T4.out.below hb5).keepU kp (fun x hx e => by have := hnu2.out x hx; omega)
  clear hb5 gb4 c5 C4 U4 T4 CN gb5 kp
  go_wp2_with (first | rw [hW7] | refine wpList_storeC rfl _ _ rfl rfl g0 (kO : Int) (kP : Int) rfl rfl _ C5.out ?_ | refine wpW_load_at 24 _ rfl g0 0 (by rfl) (by rfl) _ 2 _ (C7.out.at_ 0 (by omega) (fun i hi => by rw [Nat.zero_add])) Try.underlying24 rfl infoC ?_)
  by_cases hxy : 0 ≤ X ∧ 0 ≤ Y
  · have F1 := hide (FGG.1 hxy)
    have HXY := hide hxy
    clear FGG hxy
    refine (F1.out _ U7.out T7.out).mono ?_
    rintro e w8 ⟨⟨v, rfl, hO⟩, hb8⟩
    have oneV := hO.one
    obtain ⟨adL, cL, hvL, _, _, hcL, hmL⟩ := hO.pens
    obtain ⟨nL, hnL⟩ : ∃ n, (foldL P Q).length = n := ⟨_, rfl⟩
    rw [hnL] at hvL
    subst hvL
    obtain ⟨wa, w9, hWa, qa, hW9, r9, rb9⟩ := newL w8 X Y (.slice adL nL cL)
    have QA := hide qa
    have b79 : Below w7.heap.size w7 w9 := hb8.trans (rb9.mono hb8.size)
    have gb9 := gb7.trans (b79.mono gb7.size)
    have C9 := hide (C7.out.below b79 C7.out.lt)
    have U9 := hide (U7.out.below b79)
    have T9 := hide (T7.out.below b79)
    have L9 := hide r9
    have c91 : w9.cell? ⟨g0, 1, none⟩ = some (.int .i64 (kP : Int)) := C9.out.cell 1 (by omega)
    have NL : Hid ((foldL P Q).length = nL ∧ nL ≤ maxLen) := ⟨hnL, by rw [← hnL]; exact Nat.le_trans hcL hmL⟩
    generalize hgL : w8.heap.size = gL at QA L9 hW9
    clear hb8 hO qa r9 rb9 b79 hcL hmL hnL
    go_wp2_with (first | rw [hW9] | refine wpList_storeL rfl _ _ rfl rfl gL X Y (.slice adL nL cL) oneV rfl rfl _ QA.out ?_)
    go_loopw [18, 17] (fun i t wr => ∃ j : Nat, j ≤ kP ∧ i = .int .i64 (j : Int) ∧ t = .int .i64 (top (m2.take j)) ∧ wr = w9) (fun i _ _ => kP - (intOf i).toNat)
    case atStart => exact ⟨0, Nat.zero_le _, rfl, rfl, by first | rfl | exact hW9⟩
    case round =>
      obtain ⟨j, hj, rfl, rfl, hwr⟩ := hrel
      obtain rfl := hwr
      have t0 := top_ge (m2.take j)
      have t1 := top_le (m2.take j) (by rw [show m2.take j = (m2.take kP).take j by rw [List.take_take, Nat.min_eq_left hj]]; exact List.all_eq_true.2 fun x hx => List.all_eq_true.1 HVQ.out x (List.mem_of_mem_take hx))
      obtain ⟨t, ht⟩ : ∃ t, top (m2.take j) = t := ⟨_, rfl⟩
      rw [ht] at t0 t1 ⊢
      by_cases hlt : j < kP
      · have hd : decide ((j : Int) < (kP : Int)) = true := decide_eq_true (by omega)
        have hk0 : (0 : Int) ≤ (j : Int) := by omega
        have hk1 : (j : Int) < (n2 : Int) := by have := HPl.out; omega
        obtain ⟨s, hs⟩ : ∃ s, m2[j]? = some s := ⟨_, List.getElem?_eq_getElem (by rw [hl2]; have := HPl.out; omega)⟩
        obtain ⟨b, o, rfl, hb1, hA⟩ := T9.out.get j s hs
        have NX := hide (top_next hs)
        have hsid : 0 ≤ s.id ∧ s.id < 2048 := valid_id (List.all_eq_true.1 HVQ.out s (by rw [List.mem_take_iff_getElem]; exact ⟨j, by rw [hl2]; have := HPl.out; omega, by have := (List.getElem?_eq_some_iff.1 hs).2; exact this⟩))
        have c0 : wr.cell? ⟨b, o + j * 36 + 0, none⟩ = some (.int .i64 s.kind) := hA 0 (by omega)
        have c1 : wr.cell? ⟨b, o + j * 36 + 1, none⟩ = some (.int .i64 s.id) := hA 1 (by omega)
        rw [Nat.add_zero] at c0
        have z1 : IntKind.i64.wrap (s.id + 1) = s.id + 1 := by rw [IntKind.wrap_i64]; omega
        clear hs hA
        cases h1 : (s.kind != 1) with
        | false =>
          go_wp2
          go_roundw
          case rel => exact ⟨j + 1, by omega, by go_num, by rw [NX.out, ht]; unfold topF; rw [h1]; rfl, by first | rfl | trivial⟩
          case measure => simp [intOf]; omega
        | true =>
          cases h2 : decide (t ≤ s.id) with
          | false =>
            go_wp2
            go_roundw
            case rel => exact ⟨j + 1, by omega, by go_num, by rw [NX.out, ht]; unfold topF; rw [h1, h2]; rfl, by first | rfl | trivial⟩
            case measure => simp [intOf]; omega
          | true =>
            go_wp2
            go_roundw
            case rel => exact ⟨j + 1, by omega, by go_num, by rw [NX.out, ht]; unfold topF; rw [h1, h2]; rfl, by first | rfl | trivial⟩
            case measure => simp [intOf]; omega
      · have hjn : kP = j := by omega
        subst hjn
        have hd : decide ((kP : Int) < (kP : Int)) = false := decide_eq_false (by omega)
        obtain rfl : t = T := ht.symm.trans HT.out.1
        by_cases hT2 : t ≤ 2047
        · have hdT : decide (2047 < t) = false := decide_eq_false (by omega)
          have BU : Try.prog.built 39 [(0, .int .i64 1), (1, .int .i64 t), (2, .int .i64 M)] = some (tabv uN.v 36) := by rw [HUN.out]; exact built_uN t M
          have HBU := hide BU
          obtain ⟨w10, w11, hW10, q10, hW11, r11, rb11⟩ := newU wr (⟨1, t, M, fun _ => 0, nilB⟩ : Upd)
          have Q10 := hide q10
          have R11 : Hid (Has w11 wr.heap.size 39 uN.v 36) := by rw [HUN.out]; exact r11
          have gb11 := gb9.trans (rb11.mono gb9.size)
          have C11 := hide (C9.out.below rb11 C9.out.lt)
          have U11 := hide (U9.out.below rb11)
          have T11 := hide (T9.out.below rb11)
          have L11 := hide (L9.out.below rb11 L9.out.lt)
          have c110 : w11.cell? ⟨g0, 0, none⟩ = some (.int .i64 (kO : Int)) := C11.out.cell 0 (by omega)
          have slK := fun w => sliceK w ad3 n1 c3 kO (Nat.le_trans HPl.out.2.2.2 H34.out.1)
          have UP : Hid (∀ wx, Below w11.heap.size w11 wx → Upds wx ad3 P) := fun wx hb => by have h := (U11.out.below hb).take kO; rw [HPP.out] at h; exact h
          have hnone : ad3 = none → P = [] := fun e => by
            rcases U11.out with h | ⟨b, o, h, _⟩
            · rw [← HPP.out, h, List.take_nil]
            · rw [e] at h; cases h
          have HNN := hide hnone
          generalize hgU : wr.heap.size = gU at Q10 R11 hW11
          clear q10 r11 rb11 BU hnone
          go_upto_region 18 with (first | refine wpW_build (by rfl) 39 _ rfl [(0, .int .i64 1), (1, .int .i64 t), (2, .int .i64 M)] (by rfl) _ HBU.out ?_ | refine wpList_storeU rfl _ _ rfl rfl gU (⟨1, t, M, fun _ => 0, nilB⟩ : Upd) rfl rfl _ Q10.out ?_)
          try rw [hW11]
          go_cut [20] from 89 to 97 (fun s20 wx => ∃ adz cz, s20 = .slice adz (kO + 1) cz ∧ Upds wx adz (P ++ [uN]) ∧ kO + 1 ≤ cz ∧ Below w11.heap.size w11 wx)
          case first =>
            refine wp_region_noPanic ?_
            refine wp_region_held_drew (S := fun wx => Below w11.heap.size w11 wx) (by kernel_rfl) ((Below.refl _ _).drew) (fun hHeld => ?_)
            refine takeH 1 (some 90) (.slice ad3 n1 c3) rfl rfl (by kernel_rfl) (by kernel_rfl) (by kernel_rfl) (fun _ _ _ h => h) (by rfl) (fun w hw => by first | rfl | (go_simp; done) | (go_simp; rfl) | (go_simp; omega)) hHeld ?_
            simp only [Act.put, List.setIfInBounds_toArray, List.set_cons_zero, List.set_cons_succ]
            refine takeH 2 (some 91) (.pointer (some ⟨g0, 0, none⟩)) rfl rfl (by kernel_rfl) (by kernel_rfl) (by kernel_rfl) (fun _ _ _ h => h) (by rfl) (fun w hw => by first | rfl | (go_simp; done) | (go_simp; rfl) | (go_simp; omega)) hHeld ?_
            simp only [Act.put, List.setIfInBounds_toArray, List.set_cons_zero, List.set_cons_succ]
            refine takeH 3 (some 92) (.int .i64 (kO : Int)) rfl rfl (by kernel_rfl) (by kernel_rfl) (by kernel_rfl) (fun _ _ _ h => h) (by rfl) (fun w hw => by have c : w.cell? ⟨g0, 0, none⟩ = some (.int .i64 (kO : Int)) := (hw.cell (p := ⟨g0, 0, none⟩) C11.out.lt).trans c110; first | (go_simp; done) | (go_simp; rfl)) hHeld ?_
            simp only [Act.put, List.setIfInBounds_toArray, List.set_cons_zero, List.set_cons_succ]
            refine takeH 4 (some 93) (.slice ad3 kO c3) rfl rfl (by kernel_rfl) (by kernel_rfl) (by kernel_rfl) (fun _ _ _ h => h) (by rfl) (fun w hw => by first | rfl | (go_simp; done) | (go_simp; rfl) | (go_simp; omega)) hHeld ?_
            simp only [Act.put, List.setIfInBounds_toArray, List.set_cons_zero, List.set_cons_succ]
            refine takeH 6 (some 95) (.agg (tabv uN.v 36)) rfl rfl (by kernel_rfl) (by kernel_rfl) (by kernel_rfl) (fun _ _ _ h => h) (by rfl) (fun w hw => run_load_at w 39 _ rfl gU 0 (by rfl) _ 36 _ ((R11.out.below hw R11.out.lt).at_ 0 (by omega) (fun i hi => by rw [Nat.zero_add])) Try.underlying39 rfl infoU) hHeld ?_
            simp only [Act.put, List.setIfInBounds_toArray, List.set_cons_zero, List.set_cons_succ]
            refine wpAnyH_ready (rs := [0, 7]) (by kernel_rfl) (by simp) (AllReadyH.cons rfl (fun K hK => ?_) (AllReadyH.cons rfl (fun K hK => ?_) AllReadyH.nil))
            · rw [if_pos (by rfl)]
              obtain ⟨w_0, rZ, oZ, bZ⟩ := run_slice0 (World.drew w11)
              have HZ : Hid (OwnU w11.heap.size w_0 (.slice (some ⟨Array.size (World.heap (World.drew w11)), 0, none⟩) 0 0) []) := oZ.mono hHeld.size
              have lZ : Array.size (World.heap (World.drew w11)) < Array.size (World.heap w_0) := (oZ.lt _ rfl).2
              refine wp_slice0 _ rfl rZ (some 89) rfl ?_
              refine hK.out _ _ (hHeld.trans (bZ.mono hHeld.size)) (fun hH => ?_)
              have HZ := HZ.out
              clear hK K hHeld
              have hHeld := hH
              clear hH
              simp only [Act.put, List.setIfInBounds_toArray, List.set_cons_zero, List.set_cons_succ]
              refine wpAnyH_ready (rs := [5, 7]) (by kernel_rfl) (by simp) (AllReadyH.cons rfl (fun K hK => ?_) (AllReadyH.cons rfl (fun K hK => ?_) AllReadyH.nil))
              · rw [if_pos (by rfl)]
                obtain ⟨vP, w_05, rP, oP, gP⟩ := run_appUU (w_0) w11.heap.size _ [] P ad3 c3 22 HZ (UP.out _ hHeld) HNN.out (by have := HPl.out; simp only [List.length_nil]; omega) hHeld.size
                rw [List.nil_append] at oP
                rw [HPl.out.1] at rP
                have bP : Below w11.heap.size (w_0) w_05 := ⟨gP.os, gP.tape, gP.output, gP.size, fun k hk => gP.block k (Nat.lt_of_lt_of_le hk hHeld.size) (fun e => by have := (HZ.lt k e.symm).1; omega)⟩
                refine wp_app _ _ _ rfl rP (some 94) rfl ?_
                refine hK.out _ _ (hHeld.trans bP) (fun hH => ?_)
                clear hK K hHeld
                have hHeld := hH
                clear hH
                simp only [Act.put, List.setIfInBounds_toArray, List.set_cons_zero, List.set_cons_succ]
                refine wpAnyH_ready (rs := [7]) (by kernel_rfl) (by simp) (AllReadyH.cons rfl (fun K hK => ?_) AllReadyH.nil)
                · rw [if_pos (by rfl)]
                  have rS := run_sliceU (w_05) uN
                  obtain ⟨w_057, hWS⟩ : ∃ z, (World.alloc (w_05) (.cells (tabv uN.v 36) 39)) = z := ⟨_, rfl⟩
                  rw [hWS] at rS
                  have uS : Upds w_057 (some ⟨Array.size (World.heap (w_05)), 0, none⟩) [uN] := by rw [← hWS]; exact upds_one _ uN
                  have bS : Below (Array.size (World.heap (w_05))) (w_05) w_057 := by rw [← hWS]; exact (Below.refl _ _).alloc (Nat.le_refl _) _
                  have oP := oP.below bS (Nat.le_refl _)
                  have lS : Array.size (World.heap (w_05)) < Array.size (World.heap w_057) := by rw [← hWS]; simp
                  refine wp_slice1 _ _ rfl (.agg (tabv uN.v 36)) rfl rS (some 96) rfl ?_
                  refine hK.out _ _ (hHeld.trans (bS.mono hHeld.size)) (fun hH => ?_)
                  clear hK K hHeld
                  have hHeld := hH
                  clear hH
                  simp only [Act.put, List.setIfInBounds_toArray, List.set_cons_zero, List.set_cons_succ]
                  refine wpAnyH_ready (rs := [8]) (by kernel_rfl) (by simp) (AllReadyH.cons rfl (fun K hK => ?_) AllReadyH.nil)
                  · rw [if_pos (by rfl)]
                    obtain ⟨vF, w_0578, rF, oF, gF⟩ := run_appUU (w_057) w11.heap.size vP P [uN] (some ⟨Array.size (World.heap (w_05)), 0, none⟩) 1 22 oP uS (fun e => by cases e) (by have := HPl.out; simp only [List.length_singleton]; omega) hHeld.size
                    obtain ⟨adz, cz, hvF, uz, _, hcz, _⟩ := oF.upds
                    have hl : (P ++ [uN]).length = kO + 1 := by rw [List.length_append, HPl.out.1]; rfl
                    rw [hl] at hvF hcz
                    subst hvF
                    have bF : Below w11.heap.size (w_057) w_0578 := ⟨gF.os, gF.tape, gF.output, gF.size, fun k hk => gF.block k (Nat.lt_of_lt_of_le hk hHeld.size) (fun e => by have := (oP.lt k e.symm).1; omega)⟩
                    refine wp_app _ _ _ rfl rF (some 97) rfl ?_
                    refine hK.out _ _ (hHeld.trans bF) (fun hH => ?_)
                    clear hK K hHeld
                    have hHeld := hH
                    clear hH
                    simp only [Act.put, List.setIfInBounds_toArray, List.set_cons_zero, List.set_cons_succ]
                    refine takeH 9 (some 20) (.slice adz (kO + 1) cz) rfl rfl (by kernel_rfl) (by kernel_rfl) (by kernel_rfl) (fun _ _ _ h => h) (by rfl) (fun w hw => by first | rfl | (go_simp; done) | (go_simp; rfl) | (go_simp; omega)) hHeld ?_
                    simp only [Act.put, List.setIfInBounds_toArray, List.set_cons_zero, List.set_cons_succ]
                    refine ⟨by kernel_rfl, ?_⟩
                    refine NoPanic.normal ?_
                    try go_wp2_with fail
                    go_meet
                    exact ⟨adz, cz, rfl, uz, hcz, hHeld⟩
              · rw [if_pos (by rfl)]
                have rS := run_sliceU (w_0) uN
                obtain ⟨w_07, hWS⟩ : ∃ z, (World.alloc (w_0) (.cells (tabv uN.v 36) 39)) = z := ⟨_, rfl⟩
                rw [hWS] at rS
                have uS : Upds w_07 (some ⟨Array.size (World.heap (w_0)), 0, none⟩) [uN] := by rw [← hWS]; exact upds_one _ uN
                have bS : Below (Array.size (World.heap (w_0))) (w_0) w_07 := by rw [← hWS]; exact (Below.refl _ _).alloc (Nat.le_refl _) _
                have HZ := HZ.below bS (Nat.le_refl _)
                have lS : Array.size (World.heap (w_0)) < Array.size (World.heap w_07) := by rw [← hWS]; simp
                refine wp_slice1 _ _ rfl (.agg (tabv uN.v 36)) rfl rS (some 96) rfl ?_
                refine hK.out _ _ (hHeld.trans (bS.mono hHeld.size)) (fun hH => ?_)
                clear hK K hHeld
                have hHeld := hH
                clear hH
                have ZS : Array.size (World.heap (World.drew w11)) ≠ Array.size (World.heap (w_0)) := Nat.ne_of_lt lZ
                simp only [Act.put, List.setIfInBounds_toArray, List.set_cons_zero, List.set_cons_succ]
                refine wpAnyH_ready (rs := [5]) (by kernel_rfl) (by simp) (AllReadyH.cons rfl (fun K hK => ?_) AllReadyH.nil)
                · rw [if_pos (by rfl)]
                  obtain ⟨vP, w_075, rP, oP, gP⟩ := run_appUU (w_07) w11.heap.size _ [] P ad3 c3 22 HZ (UP.out _ hHeld) HNN.out (by have := HPl.out; simp only [List.length_nil]; omega) hHeld.size
                  rw [List.nil_append] at oP
                  rw [HPl.out.1] at rP
                  have bP : Below w11.heap.size (w_07) w_075 := ⟨gP.os, gP.tape, gP.output, gP.size, fun k hk => gP.block k (Nat.lt_of_lt_of_le hk hHeld.size) (fun e => by have := (HZ.lt k e.symm).1; omega)⟩
                  have uS := uS.keepU (Keep.grown (S := fun k => some k = (Value.slice (some ⟨Array.size (World.heap (World.drew w11)), 0, none⟩) 0 0).ownBlock) gP (fun k hk => hk.symm)) (fun x hx e => by cases hx; simp only [Value.ownBlock, Option.some.injEq] at e; exact absurd e (by have := ZS; omega))
                  refine wp_app _ _ _ rfl rP (some 94) rfl ?_
                  refine hK.out _ _ (hHeld.trans bP) (fun hH => ?_)
                  clear hK K hHeld
                  have hHeld := hH
                  clear hH
                  simp only [Act.put, List.setIfInBounds_toArray, List.set_cons_zero, List.set_cons_succ]
                  refine wpAnyH_ready (rs := [8]) (by kernel_rfl) (by simp) (AllReadyH.cons rfl (fun K hK => ?_) AllReadyH.nil)
                  · rw [if_pos (by rfl)]
                    obtain ⟨vF, w_0758, rF, oF, gF⟩ := run_appUU (w_075) w11.heap.size vP P [uN] (some ⟨Array.size (World.heap (w_0)), 0, none⟩) 1 22 oP uS (fun e => by cases e) (by have := HPl.out; simp only [List.length_singleton]; omega) hHeld.size
                    obtain ⟨adz, cz, hvF, uz, _, hcz, _⟩ := oF.upds
                    have hl : (P ++ [uN]).length = kO + 1 := by rw [List.length_append, HPl.out.1]; rfl
                    rw [hl] at hvF hcz
                    subst hvF
                    have bF : Below w11.heap.size (w_075) w_0758 := ⟨gF.os, gF.tape, gF.output, gF.size, fun k hk => gF.block k (Nat.lt_of_lt_of_le hk hHeld.size) (fun e => by have := (oP.lt k e.symm).1; omega)⟩
                    refine wp_app _ _ _ rfl rF (some 97) rfl ?_
                    refine hK.out _ _ (hHeld.trans bF) (fun hH => ?_)
                    clear hK K hHeld
                    have hHeld := hH
                    clear hH
                    simp only [Act.put, List.setIfInBounds_toArray, List.set_cons_zero, List.set_cons_succ]
                    refine takeH 9 (some 20) (.slice adz (kO + 1) cz) rfl rfl (by kernel_rfl) (by kernel_rfl) (by kernel_rfl) (fun _ _ _ h => h) (by rfl) (fun w hw => by first | rfl | (go_simp; done) | (go_simp; rfl) | (go_simp; omega)) hHeld ?_
                    simp only [Act.put, List.setIfInBounds_toArray, List.set_cons_zero, List.set_cons_succ]
                    refine ⟨by kernel_rfl, ?_⟩
                    refine NoPanic.normal ?_
                    try go_wp2_with fail
                    go_meet
                    exact ⟨adz, cz, rfl, uz, hcz, hHeld⟩
            · rw [if_pos (by rfl)]
              have rS := run_sliceU (World.drew w11) uN
              obtain ⟨w_7, hWS⟩ : ∃ z, (World.alloc (World.drew w11) (.cells (tabv uN.v 36) 39)) = z := ⟨_, rfl⟩
              rw [hWS] at rS
              have uS : Upds w_7 (some ⟨Array.size (World.heap (World.drew w11)), 0, none⟩) [uN] := by rw [← hWS]; exact upds_one _ uN
              have bS : Below (Array.size (World.heap (World.drew w11))) (World.drew w11) w_7 := by rw [← hWS]; exact (Below.refl _ _).alloc (Nat.le_refl _) _
              have lS : Array.size (World.heap (World.drew w11)) < Array.size (World.heap w_7) := by rw [← hWS]; simp
              refine wp_slice1 _ _ rfl (.agg (tabv uN.v 36)) rfl rS (some 96) rfl ?_
              refine hK.out _ _ (hHeld.trans (bS.mono hHeld.size)) (fun hH => ?_)
              clear hK K hHeld
              have hHeld := hH
              clear hH
              simp only [Act.put, List.setIfInBounds_toArray, List.set_cons_zero, List.set_cons_succ]
              refine wpAnyH_ready (rs := [0]) (by kernel_rfl) (by simp) (AllReadyH.cons rfl (fun K hK => ?_) AllReadyH.nil)
              · rw [if_pos (by rfl)]
                obtain ⟨w_70, rZ, oZ, bZ⟩ := run_slice0 (w_7)
                have uS := uS.below bZ
                have HZ : Hid (OwnU w11.heap.size w_70 (.slice (some ⟨Array.size (World.heap (w_7)), 0, none⟩) 0 0) []) := oZ.mono hHeld.size
                have lZ : Array.size (World.heap (w_7)) < Array.size (World.heap w_70) := (oZ.lt _ rfl).2
                refine wp_slice0 _ rfl rZ (some 89) rfl ?_
                refine hK.out _ _ (hHeld.trans (bZ.mono hHeld.size)) (fun hH => ?_)
                have HZ := HZ.out
                clear hK K hHeld
                have hHeld := hH
                clear hH
                have ZS : Array.size (World.heap (w_7)) ≠ Array.size (World.heap (World.drew w11)) := Nat.ne_of_gt lS
                simp only [Act.put, List.setIfInBounds_toArray, List.set_cons_zero, List.set_cons_succ]
                refine wpAnyH_ready (rs := [5]) (by kernel_rfl) (by simp) (AllReadyH.cons rfl (fun K hK => ?_) AllReadyH.nil)
                · rw [if_pos (by rfl)]
                  obtain ⟨vP, w_705, rP, oP, gP⟩ := run_appUU (w_70) w11.heap.size _ [] P ad3 c3 22 HZ (UP.out _ hHeld) HNN.out (by have := HPl.out; simp only [List.length_nil]; omega) hHeld.size
                  rw [List.nil_append] at oP
                  rw [HPl.out.1] at rP
                  have bP : Below w11.heap.size (w_70) w_705 := ⟨gP.os, gP.tape, gP.output, gP.size, fun k hk => gP.block k (Nat.lt_of_lt_of_le hk hHeld.size) (fun e => by have := (HZ.lt k e.symm).1; omega)⟩
                  have uS := uS.keepU (Keep.grown (S := fun k => some k = (Value.slice (some ⟨Array.size (World.heap (w_7)), 0, none⟩) 0 0).ownBlock) gP (fun k hk => hk.symm)) (fun x hx e => by cases hx; simp only [Value.ownBlock, Option.some.injEq] at e; exact absurd e (by have := ZS; omega))
                  refine wp_app _ _ _ rfl rP (some 94) rfl ?_
                  refine hK.out _ _ (hHeld.trans bP) (fun hH => ?_)
                  clear hK K hHeld
                  have hHeld := hH
                  clear hH
                  simp only [Act.put, List.setIfInBounds_toArray, List.set_cons_zero, List.set_cons_succ]
                  refine wpAnyH_ready (rs := [8]) (by kernel_rfl) (by simp) (AllReadyH.cons rfl (fun K hK => ?_) AllReadyH.nil)
                  · rw [if_pos (by rfl)]
                    obtain ⟨vF, w_7058, rF, oF, gF⟩ := run_appUU (w_705) w11.heap.size vP P [uN] (some ⟨Array.size (World.heap (World.drew w11)), 0, none⟩) 1 22 oP uS (fun e => by cases e) (by have := HPl.out; simp only [List.length_singleton]; omega) hHeld.size
                    obtain ⟨adz, cz, hvF, uz, _, hcz, _⟩ := oF.upds
                    have hl : (P ++ [uN]).length = kO + 1 := by rw [List.length_append, HPl.out.1]; rfl
                    rw [hl] at hvF hcz
                    subst hvF
                    have bF : Below w11.heap.size (w_705) w_7058 := ⟨gF.os, gF.tape, gF.output, gF.size, fun k hk => gF.block k (Nat.lt_of_lt_of_le hk hHeld.size) (fun e => by have := (oP.lt k e.symm).1; omega)⟩
                    refine wp_app _ _ _ rfl rF (some 97) rfl ?_
                    refine hK.out _ _ (hHeld.trans bF) (fun hH => ?_)
                    clear hK K hHeld
                    have hHeld := hH
                    clear hH
                    simp only [Act.put, List.setIfInBounds_toArray, List.set_cons_zero, List.set_cons_succ]
                    refine takeH 9 (some 20) (.slice adz (kO + 1) cz) rfl rfl (by kernel_rfl) (by kernel_rfl) (by kernel_rfl) (fun _ _ _ h => h) (by rfl) (fun w hw => by first | rfl | (go_simp; done) | (go_simp; rfl) | (go_simp; omega)) hHeld ?_
                    simp only [Act.put, List.setIfInBounds_toArray, List.set_cons_zero, List.set_cons_succ]
                    refine ⟨by kernel_rfl, ?_⟩
                    refine NoPanic.normal ?_
                    try go_wp2_with fail
                    go_meet
                    exact ⟨adz, cz, rfl, uz, hcz, hHeld⟩
          case rest =>
          obtain ⟨adz, cz, rfl, uz, hcz, hbz⟩ := hcut
          have gbz := gb11.trans (hbz.mono gb11.size)
          have Cz := hide (C11.out.below hbz C11.out.lt)
          have Tz := hide (T11.out.below hbz)
          have Lz := hide (L11.out.below hbz L11.out.lt)
          have Rz := hide (R11.out.below hbz R11.out.lt)
          have c0z : wc.cell? ⟨g0, 0, none⟩ = some (.int .i64 (kO : Int)) := Cz.out.cell 0 (by omega)
          have c1z : wc.cell? ⟨g0, 1, none⟩ = some (.int .i64 (kP : Int)) := Cz.out.cell 1 (by omega)
          have zk : IntKind.i64.wrap ((kO : Int) + 1) = (kO : Int) + 1 := by have := HPl.out; rw [IntKind.wrap_i64]; omega
          have FNN := FN.out hT2 adz ad4 cz c4 hcz H34.out.2
          rw [show ((kO + 1 : Nat) : Int) = (kO : Int) + 1 by omega] at FNN
          have hua : uN.amt = M := by rw [HUN.out]
          have BC := built_cnt ((kO : Int) + 1) (kP : Int)
          by_cases hMX : X < M
          · have hdM : decide (X < M) = true := decide_eq_true hMX
            have F3 := hide (FNN.1.2 (fun h => by omega))
            clear FNN
            go_wp2_with (first | refine wpW_build (by rfl) 24 _ rfl [(0, .int .i64 ((kO : Int) + 1)), (1, .int .i64 (kP : Int))] (by rfl) _ BC ?_)
            refine (F3.out _ uz Tz.out).mono ?_
            rintro e wB ⟨rfl, hbB⟩
            obtain ⟨wb, wD, hWb, qb, hWD, rD, rbD⟩ := newL wB 0 0 (.slice none 0 0)
            have QB := hide qb
            have bD : Below wc.heap.size wc wD := hbB.trans (rbD.mono hbB.size)
            have gbD := gbz.trans (bD.mono gbz.size)
            have LD := hide (Lz.out.below bD Lz.out.lt)
            have RD := hide (Rz.out.below bD Rz.out.lt)
            have MD := hide rD
            have d2 : wD.cell? ⟨gU, 2, none⟩ = some (.int .i64 M) := by rw [← hua]; exact RD.out.cell 2 (by omega)
            have l0 : wD.cell? ⟨gL, 0, none⟩ = some (.int .i64 X) := LD.out.cell 0 (by omega)
            generalize hgM : wB.heap.size = gM at QB MD hWD
            clear hbB qb rD rbD bD c0z c1z
            go_wp2_with (first | rw [hWD] | refine wpList_storeL rfl _ _ rfl rfl gM 0 0 (.slice none 0 0) rfl rfl rfl _ QB.out ?_ | refine wpW_load_at 32 _ rfl gM 0 (by rfl) (by rfl) (ledv 0 0 (.slice none 0 0)) 3 _ (MD.out.at_ 0 (by omega) (fun i hi => by rw [Nat.zero_add])) Try.underlying32 rfl infoL ?_ | refine wpW_build (by rfl) 32 #[] rfl [] rfl _ built_L0 ?_)
            refine (sameL_any 0 0 ([] : List Pen) (.slice none 0 0) (.slice none 0 0) _ _ _ (OwnP.nil 0 _) (OwnP.nil 0 _)).mono ?_
            rintro e wE ⟨rfl, hbE⟩
            go_wp2
            go_ret
            exact ⟨rfl, gbD.trans (hbE.mono gbD.size)⟩
          · have hdM : decide (X < M) = false := decide_eq_false hMX
            have F3 := hide (FNN.1.1 ⟨by omega, HXY.out.2⟩)
            have HLN := hide FNN.2.1
            have HMM := hide FNN.2.2.1
            have HSM := hide FNN.2.2.2
            have hX1 : X ≤ 1152921504606846976 := by
              have e1 := HW.out
              have e2 := fold_sumP P Q
              have e3 := HXY.out
              have e4 := HAB.out.2
              have e5 := HABs.out
              omega
            have zX : IntKind.i64.wrap (X - M) = X - M := by have := HM.out; rw [IntKind.wrap_i64]; omega
            have x1 : ((X - M) != (X - M)) = false := by simp
            have x2 : (Y != Y) = false := by simp
            clear FNN
            go_wp2_with (first | refine wpW_build (by rfl) 24 _ rfl [(0, .int .i64 ((kO : Int) + 1)), (1, .int .i64 (kP : Int))] (by rfl) _ BC ?_)
            refine (F3.out _ uz Tz.out).mono ?_
            rintro e wB ⟨⟨v2, rfl, hO2⟩, hbB⟩
            obtain ⟨adM, cM, hvM, _, _, hcM, hmM⟩ := hO2.pens
            obtain ⟨nM, hnM⟩ : ∃ n, (foldL (P ++ [uN]) Q).length = n := ⟨_, rfl⟩
            rw [hnM] at hvM
            subst hvM
            have hNM : nM = nL + 1 := by rw [← hnM, HLN.out, NL.out.1]
            have hNb : nM ≤ maxLen := by rw [← hnM]; exact Nat.le_trans hcM hmM
            have hNi : (nM : Int) ≤ 9223372036854775807 := by unfold maxLen at hNb; omega
            have zN : IntKind.i64.wrap ((nL : Int) + 1) = (nM : Int) := by rw [IntKind.wrap_i64]; omega
            have x3 : ((nM : Int) != (nM : Int)) = false := by simp
            have zN2 : (nL : Int) + 1 = (nM : Int) := by omega
            obtain ⟨wb, wD, hWb, qb, hWD, rD, rbD⟩ := newL wB (X - M) Y (.slice adM nM cM)
            have QB := hide qb
            have bD : Below wc.heap.size wc wD := hbB.trans (rbD.mono hbB.size)
            have gbD := gbz.trans (bD.mono gbz.size)
            have LD := hide (Lz.out.below bD Lz.out.lt)
            have RD := hide (Rz.out.below bD Rz.out.lt)
            have MD := hide rD
            have OD := hide (hO2.below rbD)
            have d2 : wD.cell? ⟨gU, 2, none⟩ = some (.int .i64 M) := by rw [← hua]; exact RD.out.cell 2 (by omega)
            have l0 : wD.cell? ⟨gL, 0, none⟩ = some (.int .i64 X) := LD.out.cell 0 (by omega)
            have l1 : wD.cell? ⟨gL, 1, none⟩ = some (.int .i64 Y) := LD.out.cell 1 (by omega)
            have l2 : wD.cell? ⟨gL, 2, none⟩ = some (.slice adL nL cL) := LD.out.cell 2 (by omega)
            have m0 : wD.cell? ⟨wB.heap.size, 0, none⟩ = some (.int .i64 (X - M)) := rD.cell 0 (by omega)
            have m1' : wD.cell? ⟨wB.heap.size, 1, none⟩ = some (.int .i64 Y) := rD.cell 1 (by omega)
            have m2' : wD.cell? ⟨wB.heap.size, 2, none⟩ = some (.slice adM nM cM) := rD.cell 2 (by omega)
            have oneM : (Value.slice adM nM cM).oneCell' = true := rfl
            generalize hgM : wB.heap.size = gM at QB MD hWD m0 m1' m2'
            clear hbB qb rD rbD bD c0z c1z hO2 hcM hmM hNM
            go_wp2_with (first | rw [hWD] | refine wpList_storeL rfl _ _ rfl rfl gM (X - M) Y (.slice adM nM cM) oneM rfl rfl _ QB.out ?_)
            clear l0 l1 l2 m0 m1'
            obtain ⟨L2, hL2⟩ : ∃ L, foldL (P ++ [uN]) Q = L := ⟨_, rfl⟩
            rw [hL2] at OD HMM hnM HSM
            have hpN : penOf true uN = (⟨true, t, M, fun _ => 0⟩ : Pen) := by rw [HUN.out]; rfl
            rw [hpN] at HMM
            obtain ⟨pN, hpN2⟩ : ∃ p : Pen, p = ⟨true, t, M, fun _ => 0⟩ := ⟨_, rfl⟩
            rw [← hpN2] at HMM
            have BP : Try.prog.built 42 [(0, .bool true), (1, .int .i64 t), (2, .int .i64 M)] = some (tabv pN.v 35) := by rw [hpN2]; exact built_pN t M
            have HBP := hide BP
            obtain ⟨adx, cx, evx, hPx, _, _, _⟩ := OD.out.pens
            rw [hnM] at evx
            cases evx
            have HPX := hide hPx
            have HNM := hide hnM
            clear hPx hnM hpN hpN2 BP
            go_loopw [23] (fun i wr => ∃ j : Nat, j ≤ nM ∧ i = .int .i64 (j : Int) ∧ Hid (∀ i' s, i' < j → L2[i']? = some s → eqP s pN = false) ∧ Below wD.heap.size wD wr) (fun i _ => nM - (intOf i).toNat)
            case atStart => exact ⟨0, Nat.zero_le _, rfl, fun i' s h => by omega, by first | exact Below.refl _ _ | (rw [hWD]; exact Below.refl _ _)⟩
            case round =>
              obtain ⟨j, hj, rfl, HNO, hwk⟩ := hrel
              have M2r := (hwk.cell (p := ⟨gM, 2, none⟩) MD.out.lt).trans m2'
              have D2r := (hwk.cell (p := ⟨gU, 2, none⟩) RD.out.lt).trans d2
              clear d2 m2'
              by_cases hlt : j < nM
              · have hd : decide ((j : Int) < (nM : Int)) = true := decide_eq_true (by omega)
                have hd2 : decide (j < nM) = true := decide_eq_true hlt
                have hk0 : (0 : Int) ≤ (j : Int) := by omega
                have hk1 : (j : Int) < (nM : Int) := by omega
                obtain ⟨s, hs⟩ : ∃ s, L2[j]? = some s := ⟨_, List.getElem?_eq_getElem (by rw [HNM.out]; exact hlt)⟩
                obtain ⟨b, o, rfl, hb1, hA⟩ := (HPX.out.below hwk).get j s hs
                have HA := hide hA
                have HSj := hide hs
                obtain ⟨R, hR⟩ : ∃ R, eqP s pN = R := ⟨_, rfl⟩
                have hq : ∀ w : World, (Op.equalIn 10000 42 (.agg (tabv s.v 35)) (.agg (tabv pN.v 35))).run Try.prog w = .ok R w := fun w => by rw [eqPD, hR]
                clear hs hA
                go_wp2
                refine wp_region_noPanic ?_
                refine wp_region_held_drew (S := fun wx => Below wr.heap.size wr wx) (by kernel_rfl) ((Below.refl _ _).drew) (fun hHeld => ?_)
                refine takeH 0 (some 160) (.pointer (some ⟨gM, 2, none⟩)) rfl rfl (by kernel_rfl) (by kernel_rfl) (by kernel_rfl) (fun _ _ _ h => h) (by rfl) (fun w hw => by first | rfl | (go_simp; done) | (go_simp; rfl) | (go_simp; omega)) hHeld ?_
                simp only [Act.put, List.setIfInBounds_toArray, List.set_cons_zero, List.set_cons_succ]
                refine takeH 1 (some 161) (.slice (some ⟨b, o, none⟩) nM cM) rfl rfl (by kernel_rfl) (by kernel_rfl) (by kernel_rfl) (fun _ _ _ h => h) (by rfl) (fun w hw => by have c : w.cell? ⟨gM, 2, none⟩ = some (.slice (some ⟨b, o, none⟩) nM cM) := (hw.cell (p := ⟨gM, 2, none⟩) (Nat.lt_of_lt_of_le MD.out.lt hwk.size)).trans M2r; first | (go_simp; done) | (go_simp; rfl)) hHeld ?_
                simp only [Act.put, List.setIfInBounds_toArray, List.set_cons_zero, List.set_cons_succ]
                refine takeH 2 (some 162) (.int .i64 (j : Int)) rfl rfl (by kernel_rfl) (by kernel_rfl) (by kernel_rfl) (fun _ _ _ h => h) (by rfl) (fun w hw => by first | rfl | (go_simp; done) | (go_simp; rfl) | (go_simp; omega)) hHeld ?_
                simp only [Act.put, List.setIfInBounds_toArray, List.set_cons_zero, List.set_cons_succ]
                refine takeH 3 (some 163) (.pointer (some ⟨b, o + j * 35, none⟩)) rfl rfl (by kernel_rfl) (by kernel_rfl) (by kernel_rfl) (fun _ _ _ h => h) (by rfl) (fun w hw => by first | rfl | (go_simp; done) | (go_simp; rfl) | (go_simp; omega)) hHeld ?_
                simp only [Act.put, List.setIfInBounds_toArray, List.set_cons_zero, List.set_cons_succ]
                refine takeH 4 (some 164) (.agg (tabv s.v 35)) rfl rfl (by kernel_rfl) (by kernel_rfl) (by kernel_rfl) (fun _ _ _ h => h) (by rfl) (fun w hw => run_load_at w 42 _ rfl b (o + j * 35) (by rfl) _ 35 _ (HA.out.below hw hb1) Try.underlying42 rfl infoP) hHeld ?_
                simp only [Act.put, List.setIfInBounds_toArray, List.set_cons_zero, List.set_cons_succ]
                refine takeH 5 (some 165) (.int .i64 t) rfl rfl (by kernel_rfl) (by kernel_rfl) (by kernel_rfl) (fun _ _ _ h => h) (by rfl) (fun w hw => by first | rfl | (go_simp; done) | (go_simp; rfl) | (go_simp; omega)) hHeld ?_
                simp only [Act.put, List.setIfInBounds_toArray, List.set_cons_zero, List.set_cons_succ]
                refine takeH 6 (some 166) (.pointer (some ⟨gU, 2, none⟩)) rfl rfl (by kernel_rfl) (by kernel_rfl) (by kernel_rfl) (fun _ _ _ h => h) (by rfl) (fun w hw => by first | rfl | (go_simp; done) | (go_simp; rfl) | (go_simp; omega)) hHeld ?_
                simp only [Act.put, List.setIfInBounds_toArray, List.set_cons_zero, List.set_cons_succ]
                refine takeH 7 (some 167) (.int .i64 M) rfl rfl (by kernel_rfl) (by kernel_rfl) (by kernel_rfl) (fun _ _ _ h => h) (by rfl) (fun w hw => by have c : w.cell? ⟨gU, 2, none⟩ = some (.int .i64 M) := (hw.cell (p := ⟨gU, 2, none⟩) (Nat.lt_of_lt_of_le RD.out.lt hwk.size)).trans D2r; first | (go_simp; done) | (go_simp; rfl)) hHeld ?_
                simp only [Act.put, List.setIfInBounds_toArray, List.set_cons_zero, List.set_cons_succ]
                refine takeH 8 (some 168) (.agg (tabv pN.v 35)) rfl rfl (by kernel_rfl) (by kernel_rfl) (by kernel_rfl) (fun _ _ _ h => h) (by rfl) (fun w hw => run_buildQ w _ _ rfl [(0, .bool true), (1, .int .i64 t), (2, .int .i64 M)] (by first | (simp [Act.eval]; done) | (go_simp; done) | (go_simp; rfl) | kernel_rfl) _ HBP.out) hHeld ?_
                simp only [Act.put, List.setIfInBounds_toArray, List.set_cons_zero, List.set_cons_succ]
                refine takeH 9 (some 169) (.bool R) rfl rfl (by kernel_rfl) (by kernel_rfl) (by kernel_rfl) (fun _ _ _ h => h) (by rfl) (fun w hw => run_eqP w _ _ s pN R rfl rfl rfl hq) hHeld ?_
                simp only [Act.put, List.setIfInBounds_toArray, List.set_cons_zero, List.set_cons_succ]
                refine ⟨by kernel_rfl, ?_⟩
                refine NoPanic.normal ?_
                have hwk2 := hwk.trans (hHeld.mono hwk.size)
                cases R with
                | true =>
                  have MDr := hide (MD.out.below hwk2 MD.out.lt)
                  go_wp2_with (first | refine wpW_load_at 32 _ rfl gM 0 (by rfl) (by rfl) (ledv (X - M) Y (.slice (some ⟨b, o, none⟩) nM cM)) 3 _ (MDr.out.at_ 0 (by omega) (fun i hi => by rw [Nat.zero_add])) Try.underlying32 rfl infoL ?_)
                  refine (whole_any (X - M) Y (A + Bb) L2 _ _ _ (OD.out.below hwk2) (by omega) HXY.out.2 HSM.out HAB.out.2 (by rw [← hL2]; exact fold_chain _ _) (by rw [← hL2]; exact fold_amt _ _)).mono ?_
                  rintro e wE ⟨rfl, hbE⟩
                  go_wp2
                  go_ret
                  exact ⟨rfl, gbD.trans ((hwk2.trans (hbE.mono hwk2.size)).mono gbD.size)⟩
                | false =>
                  go_wp2
                  go_roundw
                  case rel => exact ⟨j + 1, by omega, by go_num, fun i' s' hi' hs' => by
                    rcases Nat.lt_or_ge i' j with h | h
                    · exact HNO.out i' s' h hs'
                    · obtain rfl : i' = j := by omega
                      rw [HSj.out] at hs'
                      cases hs'
                      exact hR, hwk2⟩
                  case measure => simp [intOf]; omega
              · exfalso
                obtain ⟨k, hk, e⟩ := List.mem_iff_getElem.1 HMM.out
                have := HNO.out k pN (by rw [HNM.out] at hk; omega) (by rw [List.getElem?_eq_getElem hk, e])
                rw [eqP_refl] at this
                cases this
        · have hdT : decide (2047 < t) = true := decide_eq_true (by omega)
          go_wp2
          go_ret
          exact ⟨rfl, by first | exact gb9 | (rw [← hg0]; exact gb9) | (rw [hg0] at gb9; exact gb9)⟩
  · have F1 := hide (FGG.2 hxy)
    clear FGG hxy
    refine (F1.out _ U7.out T7.out).mono ?_
    rintro e w8 ⟨rfl, hb8⟩
    obtain ⟨wa, w9, hWa, qa, hW9, r9, rb9⟩ := newL w8 0 0 (.slice none 0 0)
    have QA := hide qa
    have b79 : Below w7.heap.size w7 w9 := hb8.trans (rb9.mono hb8.size)
    have gb9 := gb7.trans (b79.mono gb7.size)
    generalize hgL : w8.heap.size = gL at QA hW9
    clear hb8 qa r9 rb9 b79
    go_wp2_with (first | refine wpList_storeL rfl _ _ rfl rfl gL 0 0 (.slice none 0 0) rfl rfl rfl _ QA.out ?_)
    go_ret
    exact ⟨rfl, by first | exact gb9 | (rw [hW9]; exact gb9)⟩
end Go.Proofs.Ytoomcpehdflolaa
