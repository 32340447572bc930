/-
  LedgerViews: the walk (printed by gen_views.py).
-/
import Derived.Test.YtoomcpehdflolaaGTurned
namespace Go.Proofs.Ytoomcpehdflolaa
open Go.RowKit S Go.Shelf Go.Sort
set_option linter.unusedVariables false
set_option linter.unusedSimpArgs false
theorem made2 (ad : Option Addr) (n cap : Nat) (l : List Upd) (hn : l.length = n) (hz : n ≤ 1954687338211) (w : World) (hS : Upds w ad l) : Calls Try.prog 10 #[.slice ad n cap] w fun e w' => (∃ ad' c, e = .returned (.slice ad' n c) ∧ Upds w' ad' (l.map madeU) ∧ n ≤ c ∧ ∀ x, ad' = some x → w.heap.size ≤ x.block) ∧ Below w.heap.size w w' := by
  refine (made_any ad n cap l hn hz w hS).mono ?_
  rintro e w' ⟨⟨v, rfl, hL⟩, hb⟩
  obtain ⟨ad', c, rfl, h1, h3, h2, _⟩ := hL.upds
  have e : (l.map madeU).length = n := by rw [List.length_map, hn]
  rw [e] at h2
  exact ⟨⟨ad', c, by rw [e], h1, h2, fun x hx => (h3 x hx).2⟩, hb⟩
theorem Upds.keepU {S : Nat → Prop} {w w' : World} {ad : Option Addr} {l : List Upd} (h : Upds w ad l) (k : Keep S w w') (hS : ∀ x, ad = some x → ¬ S x.block) : Upds w' ad l := by
  rcases h with rfl | ⟨b, o, h1, h2, h3⟩
  · exact .inl rfl
  · refine .inr ⟨b, o, h1, Nat.lt_of_lt_of_le h2 k.size, fun i s hs j hj => ?_⟩
    have e := h3 i s hs j hj
    unfold World.cell? at e ⊢
    rw [k.block b h2 (hS _ h1)]
    exact e
theorem clamp_in {X : Int} (h0 : 0 ≤ X) (h1 : X ≤ 1152921504606846976) : clampA X = X := by
  unfold clampA
  rw [if_neg (by omega)]
  split <;> omega
theorem fold_sumP (a b : List Upd) : 0 ≤ sumP (foldL a b) := sumP_pos (fold_amt a b)
/-- Fold where all is valid: its two answers. -/
theorem foldG (bO bP : Int) (b1 : 0 ≤ bO ∧ bO ≤ 576460752303423487) (b2 : 0 ≤ bP ∧ bP ≤ 576460752303423487) (a1 a2 : Option Addr) (n1 c1 n2 c2 : Nat) (m1 m2 : List Upd) (hn1 : m1.length = n1) (hn2 : m2.length = n2) (z1 : n1 ≤ 1955000000000) (z2 : n2 ≤ 1955000000000) (k1 : n1 ≤ c1) (k2 : n2 ≤ c2) (kO kP : Nat) (lO : kO ≤ n1) (lP : kP ≤ n2) (hv1 : (m1.take kO).all validB = true) (hv2 : (m2.take kP).all validB = true) (P Q : List Upd) (hP : m1.take kO = P) (hQ : m2.take kP = Q) (X Y : Int) (hX : balX bO P Q = X) (hY : balY bP P Q = Y) :
    (0 ≤ X ∧ 0 ≤ Y → ∀ w, Upds w a1 m1 → Upds w a2 m2 → Calls Try.prog 12 #[.int .i64 bO, .int .i64 bP, .slice a1 n1 c1, .slice a2 n2 c2, .agg (tabv (cnv kO kP) 2)] w fun e w' => (∃ v, e = .returned (.tuple #[.agg (tabv (ledv X Y v) 3), .int .i64 0]) ∧ OwnP w.heap.size w' v (foldL P Q)) ∧ Below w.heap.size w w') ∧
    (¬ (0 ≤ X ∧ 0 ≤ Y) → ∀ w, Upds w a1 m1 → Upds w a2 m2 → Calls Try.prog 12 #[.int .i64 bO, .int .i64 bP, .slice a1 n1 c1, .slice a2 n2 c2, .agg (tabv (cnv kO kP) 2)] w fun e w' => e = .returned (.tuple #[.agg (tabv (ledv 0 0 (.slice none 0 0)) 3), .int .i64 130]) ∧ Below w.heap.size w w') := by
  have hpl : plusA bO bP = (bO + bP, 0) := by unfold plusA; rw [if_pos ⟨(isA_iff _).2 (by omega), (isA_iff _).2 (by omega), (isA_iff _).2 (by omega)⟩]
  have hw := bal_whole bO bP P Q
  have hf := fold_sumP P Q
  rw [hX, hY] at hw
  constructor
  · intro hxy w hS1 hS2
    have h := fold_ok bO bP a1 a2 n1 c1 n2 c2 m1 m2 hn1 hn2 z1 z2 k1 k2 kO kP lO lP w hS1 hS2 hpl (by show _ ∧ _; omega) hv1 hv2 (by show _ ≤ _; omega)
    rw [hP, hQ, hX, hY, clamp_in hxy.1 (by omega), clamp_in hxy.2 (by omega)] at h
    refine Calls.mono h ?_
    rintro e w' (⟨v, _, _, rfl, ho, hb⟩ | ⟨hc, _⟩)
    · exact ⟨⟨v, rfl, ho⟩, hb⟩
    · omega
  · intro hxy w hS1 hS2
    have h := fold_ok bO bP a1 a2 n1 c1 n2 c2 m1 m2 hn1 hn2 z1 z2 k1 k2 kO kP lO lP w hS1 hS2 hpl (by show _ ∧ _; omega) hv1 hv2 (by show _ ≤ _; omega)
    rw [hP, hQ, hX, hY] at h
    refine Calls.mono h ?_
    rintro e w' (⟨v, h1, h2, _⟩ | ⟨_, rfl, hb⟩)
    · omega
    · exact ⟨rfl, hb⟩
section
variable {ops : Array Oper} {rest : List Oper} {o : Oper} {a : Act} {w : World} {Q : Exit → Act → World → Prop}
theorem wpList_storeC (hgd : o.guard = none) (x y : Operand) (ho : o.op = .store 24 x y) (hd : o.dst = none) (g : Nat) (p q : Int) (hx : a.eval x = .pointer (some ⟨g, 0, none⟩)) (hy : a.eval y = .agg (tabv (cnv p q) 2)) (f : Nat → Value) (hg : Has w g 24 f 2)
    (hk : wpList Try.prog ops Q rest a (w.setRow g (tabv (cnv p q) 2))) : wpList Try.prog ops Q (o :: rest) a w :=
  wpList_store_part hgd 24 x y ho hd g 0 (cnv p q) 2 hx hy 24 f 2 hg (by omega) infoC (fun i _ => oneC p q i) (cnv p q) (fun i hi => by unfold splice; rw [if_pos (by omega), Nat.sub_zero]) hk
end
/-- A new variable that takes a ledger. -/
theorem newL (w : World) (x y : Int) (v : Value) : ∃ wa ws, w.alloc (.cells #[.int .i64 0, .int .i64 0, .slice none 0 0] 32) = wa ∧ Has wa w.heap.size 32 (ledv 0 0 (.slice none 0 0)) 3 ∧ wa.setRow w.heap.size (tabv (ledv x y v) 3) = ws ∧ Has ws w.heap.size 32 (ledv x y v) 3 ∧ Below w.heap.size w ws := by
  have q1 : Has (w.alloc (.cells (tabv (ledv 0 0 (.slice none 0 0)) 3) 32)) w.heap.size 32 (ledv 0 0 (.slice none 0 0)) 3 := Has.new w 32 _ 3 _ rfl
  exact ⟨_, _, by rw [zeroL], q1, rfl, q1.row _ _ rfl, below_setRow ((Below.refl w.heap.size w).alloc (Nat.le_refl _) _) (Nat.le_refl _) _⟩
theorem built_L0 : Try.prog.built 32 [] = some (tabv (ledv 0 0 (.slice none 0 0)) 3) := by kernel_rfl
set_option maxRecDepth 100000 in
set_option maxHeartbeats 4000000 in
theorem views_walk (a b : Int) (a1 a2 : Option Addr) (n1 c1 n2 c2 : Nat) (ours peers : List Upd) (hn1 : ours.length = n1) (hn2 : peers.length = n2) (z1 : n1 ≤ 1954687338211) (z2 : n2 ≤ 1954687338211) (x y : Int) (w : World) (hS1 : Upds w a1 ours) (hS2 : Upds w a2 peers) : Calls Try.prog 4 #[.int .i64 a, .int .i64 b, .slice a1 n1 c1, .slice a2 n2 c2, .agg (tabv (cnv x y) 2)] w fun e w' => e = .returned (.bool true) ∧ Below w.heap.size w w' := by
  obtain ⟨m1, hm1⟩ : ∃ m, ours.map madeU = m := ⟨_, rfl⟩
  obtain ⟨m2, hm2⟩ : ∃ m, peers.map madeU = m := ⟨_, rfl⟩
  have hl1 : m1.length = n1 := by rw [← hm1, List.length_map, hn1]
  have hl2 : m2.length = n2 := by rw [← hm2, List.length_map, hn2]
  obtain ⟨A, hA⟩ : ∃ A, baseI a = A := ⟨_, rfl⟩
  obtain ⟨Bb, hB⟩ : ∃ A, baseI b = A := ⟨_, rfl⟩
  have bA := baseI_bd a
  have bB := baseI_bd b
  rw [hA] at bA
  rw [hB] at bB
  have BS := hide (fun (w : World) => bases_any a b w)
  rw [hA, hB] at BS
  obtain ⟨kO, kP, lO, lP, hcnt⟩ := counts_any x y n1 n2 (by omega) (by omega)
  have CN := hide hcnt
  have M1 := hide (fun (w : World) (h : Upds w a1 ours) => made2 a1 n1 c1 ours hn1 (by omega) w h)
  have M2 := hide (fun (w : World) (h : Upds w a2 peers) => made2 a2 n2 c2 peers hn2 (by omega) w h)
  rw [hm1] at M1
  rw [hm2] at M2
  obtain ⟨P, hP⟩ : ∃ P, m1.take kO = P := ⟨_, rfl⟩
  obtain ⟨Q, hQ⟩ : ∃ Q, m2.take kP = Q := ⟨_, rfl⟩
  have vP : (m1.take kO).all validB = true := by rw [← hm1]; exact made_all ours kO
  have vQ : (m2.take kP).all validB = true := by rw [← hm2]; exact made_all peers kP
  obtain ⟨X, hX⟩ : ∃ X, balX A P Q = X := ⟨_, rfl⟩
  obtain ⟨Y, hY⟩ : ∃ Y, balY Bb P Q = Y := ⟨_, rfl⟩
  have FG := fun (d1 d2 : Option Addr) (e1 e2 : Nat) (h1 : n1 ≤ e1) (h2 : n2 ≤ e2) => foldG A Bb bA bB d1 d2 n1 e1 n2 e2 m1 m2 hl1 hl2 (by omega) (by omega) h1 h2 kO kP lO lP vP vQ P Q hP hQ X Y hX hY
  have FH := fun (d1 d2 : Option Addr) (e1 e2 : Nat) (h1 : n1 ≤ e1) (h2 : n2 ≤ e2) => foldG Bb A bB bA d2 d1 n2 e2 n1 e1 m2 m1 hl2 hl1 (by omega) (by omega) h2 h1 kP kO lP lO vQ vP Q P hQ hP Y X ((bal_turn A Bb P Q).1.trans hY) ((bal_turn A Bb P Q).2.trans hX)
  have HW : Hid (X + Y + sumP (foldL P Q) = A + Bb) := by have := bal_whole A Bb P Q; rw [hX, hY] at this; exact this
  have HAB : Hid (True ∧ A + Bb ≤ 2305843009213693952) := ⟨trivial, by omega⟩
  have zAB : IntKind.i64.wrap (A + Bb) = A + Bb := by rw [IntKind.wrap_i64]; omega
  have HLEN : Hid ((foldL P Q).length ≤ 3910000000000) := by
    show _ ≤ _
    unfold foldL
    have e1 := opens_len true Q P
    have e2 := opens_len false P Q
    have e3 : P.length ≤ n1 := by rw [← hP, List.length_take]; omega
    have e4 : Q.length ≤ n2 := by rw [← hQ, List.length_take]; omega
    rw [List.length_append, sortP_length, sortP_length]
    omega
  have FG' := hide FG
  have FH' := hide FH
  obtain ⟨w1, hw1⟩ : ∃ z, w.alloc (.cells (tabv (cnv x y) 2) 24) = z := ⟨_, rfl⟩
  have q1 : Has w1 w.heap.size 24 (cnv x y) 2 := by rw [← hw1]; exact Has.new w 24 _ 2 _ rfl
  have gb1 : Below w.heap.size w w1 := by rw [← hw1]; exact (Below.refl _ w).alloc (Nat.le_refl _) _
  obtain ⟨g0, hg0⟩ : ∃ g, w.heap.size = g := ⟨_, rfl⟩
  rw [hg0] at q1
  have C1 := hide q1
  have hn0 : (0 : Int) ≤ (n1 : Int) := by omega
  clear FG FH hm1 hm2 hn1 hn2 hl1 hl2 hA hB bA bB hcnt lO lP hP hQ vP vQ hX hY q1 z1 z2
  go_enter Try.func4, Try.ntmps4
  go_wp2_with fail
  refine (first_any _).mono ?_
  rintro e w2 ⟨rfl, hb2⟩
  have gb2 := gb1.trans (hb2.mono gb1.size)
  have C2 := hide (C1.out.below hb2 C1.out.lt)
  clear hb2 gb1 C1 hw1
  go_wp2_with fail
  refine (BS.out _).mono ?_
  rintro e wx ⟨rfl, hx⟩
  obtain rfl := hx.symm
  clear hx BS
  go_wp2_with fail
  refine (M1.out _ (hS1.below gb2)).mono ?_
  rintro e w3 ⟨⟨ad3, c3, rfl, u3, h3, n3⟩, hb3⟩
  have hnu1 : Hid (∀ x, ad3 = some x → g0 < x.block) := fun x hx => Nat.lt_of_lt_of_le C2.out.lt (n3 x hx)
  clear n3
  have gb3 := gb2.trans (hb3.mono gb2.size)
  have C3 := hide (C2.out.below hb3 C2.out.lt)
  clear hb3 gb2 C2 M1
  go_wp2_with fail
  refine (M2.out _ (hS2.below gb3)).mono ?_
  rintro e w4 ⟨⟨ad4, c4, rfl, u4, h4, n4⟩, hb4⟩
  have hnu2 : Hid (∀ x, ad4 = some x → g0 < x.block) := fun x hx => Nat.lt_of_lt_of_le C3.out.lt (n4 x hx)
  clear n4
  have gb4 := gb3.trans (hb4.mono gb3.size)
  have C4 := hide (C3.out.below hb4 C3.out.lt)
  have U4 := hide (u3.below hb4)
  have T4 := hide u4
  have FGG := FG'.out ad3 ad4 c3 c4 h3 h4
  have FHH := FH'.out ad3 ad4 c3 c4 h3 h4
  clear hb4 gb3 C3 M2 u3 u4 FG' FH' h3 h4
  go_wp2_with (first | refine wpW_load_at 24 _ rfl g0 0 (by rfl) (by rfl) _ 2 _ (C4.out.at_ 0 (by omega) (fun i hi => by rw [Nat.zero_add])) Try.underlying24 rfl infoC ?_)
  refine (CN.out _).mono ?_
  rintro e w5 ⟨rfl, hb5⟩
  obtain ⟨w7, hW7⟩ : ∃ z, w5.setRow g0 (tabv (cnv kO kP) 2) = z := ⟨_, rfl⟩
  have c5 := C4.out.below hb5 C4.out.lt
  have kp : Keep (· = g0) w5 w7 := by rw [← hW7]; exact ⟨rfl, rfl, rfl, by simp, fun k hk hne => setRow_other w5 g0 k _ hne⟩
  have gb5 := gb4.trans (hb5.mono gb4.size)
  have gb7 : Below w.heap.size w w7 := gb5.trans (kp.below gb5.size (fun k hk e => by omega))
  have C5 := hide c5
  have C7 : Hid (Has w7 g0 24 (cnv kO kP) 2) := by rw [← hW7]; exact c5.row _ _ rfl
  have U7 : Hid (Upds w7 ad3 m1) := (U4.out.below hb5).keepU kp (fun x hx e => by have := hnu1.out x hx; omega)
  have T7 : Hid (Upds w7 ad4 m2) := (T4.out.below hb5).keepU kp (fun x hx e => by have := hnu2.out x hx; omega)
  clear hb5 gb4 c5 C4 U4 T4 CN gb5 kp
  go_wp2_with (first | rw [hW7] | refine wpList_storeC rfl _ _ rfl rfl g0 (kO : Int) (kP : Int) rfl rfl _ C5.out ?_ | refine wpW_load_at 24 _ rfl g0 0 (by rfl) (by rfl) _ 2 _ (C7.out.at_ 0 (by omega) (fun i hi => by rw [Nat.zero_add])) Try.underlying24 rfl infoC ?_)
  by_cases hxy : 0 ≤ X ∧ 0 ≤ Y
  · have F1 := hide (FGG.1 hxy)
    have F2 := hide (FHH.1 ⟨hxy.2, hxy.1⟩)
    have HXY := hide hxy
    clear FGG FHH hxy
    refine (F1.out _ U7.out T7.out).mono ?_
    rintro e w8 ⟨⟨v, rfl, hO⟩, hb8⟩
    have oneV := hO.one
    obtain ⟨wa, w9, hWa, qa, hW9, r9, rb9⟩ := newL w8 X Y (v)
    have QA := hide qa
    have b79 : Below w7.heap.size w7 w9 := hb8.trans (rb9.mono hb8.size)
    have gb9 := gb7.trans (b79.mono gb7.size)
    have C9 := hide (C7.out.below b79 C7.out.lt)
    have U9 := hide (U7.out.below b79)
    have T9 := hide (T7.out.below b79)
    have L9 := hide r9
    have O9 := hide (hO.below rb9)
    have c90 : w9.cell? ⟨g0, 0, none⟩ = some (.int .i64 (kO : Int)) := C9.out.cell 0 (by omega)
    have c91 : w9.cell? ⟨g0, 1, none⟩ = some (.int .i64 (kP : Int)) := C9.out.cell 1 (by omega)
    generalize hgL : w8.heap.size = gL at QA L9 hW9
    clear hb8 hO qa r9 rb9 b79
    go_wp2_with (first | refine wpList_storeL rfl _ _ rfl rfl gL X Y (v) oneV rfl rfl _ QA.out ?_ | refine wpW_build (by rfl) 24 _ rfl [(0, .int .i64 (kP : Int)), (1, .int .i64 (kO : Int))] (by rfl) _ (built_cnt _ _) ?_)
    refine (F2.out _ T9.out U9.out).mono ?_
    rintro e wA ⟨⟨v2, rfl, hO2⟩, hbA⟩
    have oneV2 := hO2.one
    obtain ⟨wb, wB, hWb, qb, hWB, rB, rbB⟩ := newL wA Y X (v2)
    have QB := hide qb
    have b9B : Below w9.heap.size w9 wB := hbA.trans (rbB.mono hbA.size)
    have gbB := gb9.trans (b9B.mono gb9.size)
    have LB := hide (L9.out.below b9B L9.out.lt)
    have OB := hide (O9.out.below b9B)
    have MB := hide rB
    have PB := hide (hO2.below rbB)
    generalize hgM : wA.heap.size = gM at QB MB hWB
    clear hbA hO2 qb rB rbB b9B c90 c91 C9 U9 T9
    go_wp2_with (first | refine wpList_storeL rfl _ _ rfl rfl gM Y X (v2) oneV2 rfl rfl _ QB.out ?_)
    try rw [hWB]
    refine wp_region_noPanic ?_
    refine wp_region_held_drew (S := fun wx => Below wB.heap.size wB wx) (by kernel_rfl) ((Below.refl _ _).drew) (fun hHeld => ?_)
    refine takeH 0 (some 57) (.int .i64 0) rfl rfl (by kernel_rfl) (by kernel_rfl) (by kernel_rfl) (fun _ _ _ h => h) (by rfl) (fun w hw => by first | rfl | (go_simp; done) | (go_simp; rfl) | (go_simp; omega)) hHeld ?_
    simp only [Act.put, List.setIfInBounds_toArray, List.set_cons_zero, List.set_cons_succ]
    refine takeH 1 (some 58) (.int .i64 0) rfl rfl (by kernel_rfl) (by kernel_rfl) (by kernel_rfl) (fun _ _ _ h => h) (by rfl) (fun w hw => by first | rfl | (go_simp; done) | (go_simp; rfl) | (go_simp; omega)) hHeld ?_
    simp only [Act.put, List.setIfInBounds_toArray, List.set_cons_zero, List.set_cons_succ]
    refine takeH 2 (some 59) (.bool false) rfl rfl (by kernel_rfl) (by kernel_rfl) (by kernel_rfl) (fun _ _ _ h => h) (by rfl) (fun w hw => by first | rfl | (go_simp; done) | (go_simp; rfl) | (go_simp; omega)) hHeld ?_
    simp only [Act.put, List.setIfInBounds_toArray, List.set_cons_zero, List.set_cons_succ]
    refine takeH 3 (some 60) (.bool false) rfl rfl (by kernel_rfl) (by kernel_rfl) (by kernel_rfl) (fun _ _ _ h => h) (by rfl) (fun w hw => by first | rfl | (go_simp; done) | (go_simp; rfl) | (go_simp; omega)) hHeld ?_
    simp only [Act.put, List.setIfInBounds_toArray, List.set_cons_zero, List.set_cons_succ]
    refine takeH 4 (some 61) (.agg (tabv (ledv X Y (v)) 3)) rfl rfl (by kernel_rfl) (by kernel_rfl) (by kernel_rfl) (fun _ _ _ h => h) (by rfl) (fun w hw => run_load_at w 32 _ rfl gL 0 (by rfl) _ 3 _ ((LB.out.below hw LB.out.lt).at_ 0 (by omega) (fun i hi => by rw [Nat.zero_add])) Try.underlying32 rfl infoL) hHeld ?_
    simp only [Act.put, List.setIfInBounds_toArray, List.set_cons_zero, List.set_cons_succ]
    refine takeH 6 (some 63) (.agg (tabv (ledv Y X (v2)) 3)) rfl rfl (by kernel_rfl) (by kernel_rfl) (by kernel_rfl) (fun _ _ _ h => h) (by rfl) (fun w hw => run_load_at w 32 _ rfl gM 0 (by rfl) _ 3 _ ((MB.out.below hw MB.out.lt).at_ 0 (by omega) (fun i hi => by rw [Nat.zero_add])) Try.underlying32 rfl infoL) hHeld ?_
    simp only [Act.put, List.setIfInBounds_toArray, List.set_cons_zero, List.set_cons_succ]
    refine wpAnyH_ready (rs := [5]) (by kernel_rfl) (by simp) (AllReadyH.cons rfl (fun K hK => ?_) AllReadyH.nil)
    rw [if_pos (by rfl)]
    go_simp
    refine (turned_any X Y (foldL P Q) (v) _ _ (OB.out.below hHeld) (by exact HLEN.out)).mono ?_
    rintro e wC ⟨⟨v3, rfl, oC⟩, hbC⟩
    try go_wp2_with fail
    refine hK.out _ _ (hHeld.trans (hbC.mono hHeld.size)) (fun hH => ?_)
    clear hK K hHeld
    have hHeld := hH
    clear hH
    refine wpAnyH_ready (rs := [7]) (by kernel_rfl) (by simp) (AllReadyH.cons rfl (fun K hK => ?_) AllReadyH.nil)
    rw [if_pos (by rfl)]
    go_simp
    refine (sameL_any Y X (foldL Q P) v3 (v2) _ _ _ (by have h := oC; rw [turn_fold] at h; exact h) (PB.out.below hHeld)).mono ?_
    rintro e wD ⟨rfl, hbD⟩
    try go_wp2_with fail
    refine hK.out _ _ (hHeld.trans (hbD.mono hHeld.size)) (fun hH => ?_)
    clear hK K hHeld
    have hHeld := hH
    clear hH
    refine takeH 8 (some 65) (.bool false) rfl rfl (by kernel_rfl) (by kernel_rfl) (by kernel_rfl) (fun _ _ _ h => h) (by rfl) (fun w hw => by first | rfl | (go_simp; done) | (go_simp; rfl) | (go_simp; omega)) hHeld ?_
    simp only [Act.put, List.setIfInBounds_toArray, List.set_cons_zero, List.set_cons_succ]
    refine takeH 9 (some 66) (.bool false) rfl rfl (by kernel_rfl) (by kernel_rfl) (by kernel_rfl) (fun _ _ _ h => h) (by rfl) (fun w hw => by first | rfl | (go_simp; done) | (go_simp; rfl) | (go_simp; omega)) hHeld ?_
    simp only [Act.put, List.setIfInBounds_toArray, List.set_cons_zero, List.set_cons_succ]
    refine ⟨by kernel_rfl, ?_⟩
    refine NoPanic.normal ?_
    have gbD := gbB.trans (hHeld.mono gbB.size)
    have LD := hide (LB.out.below hHeld LB.out.lt)
    have OD := hide (OB.out.below hHeld)
    go_wp2_with (first | refine wpW_load_at 32 _ rfl gL 0 (by rfl) (by rfl) (ledv X Y v) 3 _ (LD.out.at_ 0 (by omega) (fun i hi => by rw [Nat.zero_add])) Try.underlying32 rfl infoL ?_)
    refine (whole_any X Y (A + Bb) (foldL P Q) v _ _ OD.out HXY.out.1 HXY.out.2 HW.out HAB.out.2 (fold_chain P Q) (fold_amt P Q)).mono ?_
    rintro e wE ⟨rfl, hbE⟩
    go_wp2
    go_ret
    exact ⟨rfl, gbD.trans (hbE.mono gbD.size)⟩
  · have F1 := hide (FGG.2 hxy)
    have F2 := hide (FHH.2 (fun h => hxy ⟨h.2, h.1⟩))
    clear FGG FHH hxy
    refine (F1.out _ U7.out T7.out).mono ?_
    rintro e w8 ⟨rfl, hb8⟩
    have hO : OwnP w7.heap.size w8 (.slice none 0 0) ([] : List Pen) := OwnP.nil _ _
    have oneV := hO.one
    obtain ⟨wa, w9, hWa, qa, hW9, r9, rb9⟩ := newL w8 0 0 (.slice none 0 0)
    have QA := hide qa
    have b79 : Below w7.heap.size w7 w9 := hb8.trans (rb9.mono hb8.size)
    have gb9 := gb7.trans (b79.mono gb7.size)
    have C9 := hide (C7.out.below b79 C7.out.lt)
    have U9 := hide (U7.out.below b79)
    have T9 := hide (T7.out.below b79)
    have L9 := hide r9
    have O9 := hide (hO.below rb9)
    have c90 : w9.cell? ⟨g0, 0, none⟩ = some (.int .i64 (kO : Int)) := C9.out.cell 0 (by omega)
    have c91 : w9.cell? ⟨g0, 1, none⟩ = some (.int .i64 (kP : Int)) := C9.out.cell 1 (by omega)
    generalize hgL : w8.heap.size = gL at QA L9 hW9
    clear hb8 hO qa r9 rb9 b79
    go_wp2_with (first | refine wpList_storeL rfl _ _ rfl rfl gL 0 0 (.slice none 0 0) oneV rfl rfl _ QA.out ?_ | refine wpW_build (by rfl) 24 _ rfl [(0, .int .i64 (kP : Int)), (1, .int .i64 (kO : Int))] (by rfl) _ (built_cnt _ _) ?_)
    refine (F2.out _ T9.out U9.out).mono ?_
    rintro e wA ⟨rfl, hbA⟩
    have hO2 : OwnP w9.heap.size wA (.slice none 0 0) ([] : List Pen) := OwnP.nil _ _
    have oneV2 := hO2.one
    obtain ⟨wb, wB, hWb, qb, hWB, rB, rbB⟩ := newL wA 0 0 (.slice none 0 0)
    have QB := hide qb
    have b9B : Below w9.heap.size w9 wB := hbA.trans (rbB.mono hbA.size)
    have gbB := gb9.trans (b9B.mono gb9.size)
    have LB := hide (L9.out.below b9B L9.out.lt)
    have OB := hide (O9.out.below b9B)
    have MB := hide rB
    have PB := hide (hO2.below rbB)
    generalize hgM : wA.heap.size = gM at QB MB hWB
    clear hbA hO2 qb rB rbB b9B c90 c91 C9 U9 T9
    go_wp2_with (first | refine wpList_storeL rfl _ _ rfl rfl gM 0 0 (.slice none 0 0) oneV2 rfl rfl _ QB.out ?_)
    try rw [hWB]
    refine wp_region_noPanic ?_
    refine wp_region_held_drew (S := fun wx => Below wB.heap.size wB wx) (by kernel_rfl) ((Below.refl _ _).drew) (fun hHeld => ?_)
    refine takeH 0 (some 57) (.int .i64 130) rfl rfl (by kernel_rfl) (by kernel_rfl) (by kernel_rfl) (fun _ _ _ h => h) (by rfl) (fun w hw => by first | rfl | (go_simp; done) | (go_simp; rfl) | (go_simp; omega)) hHeld ?_
    simp only [Act.put, List.setIfInBounds_toArray, List.set_cons_zero, List.set_cons_succ]
    refine takeH 1 (some 58) (.int .i64 130) rfl rfl (by kernel_rfl) (by kernel_rfl) (by kernel_rfl) (fun _ _ _ h => h) (by rfl) (fun w hw => by first | rfl | (go_simp; done) | (go_simp; rfl) | (go_simp; omega)) hHeld ?_
    simp only [Act.put, List.setIfInBounds_toArray, List.set_cons_zero, List.set_cons_succ]
    refine takeH 2 (some 59) (.bool false) rfl rfl (by kernel_rfl) (by kernel_rfl) (by kernel_rfl) (fun _ _ _ h => h) (by rfl) (fun w hw => by first | rfl | (go_simp; done) | (go_simp; rfl) | (go_simp; omega)) hHeld ?_
    simp only [Act.put, List.setIfInBounds_toArray, List.set_cons_zero, List.set_cons_succ]
    refine takeH 3 (some 60) (.bool false) rfl rfl (by kernel_rfl) (by kernel_rfl) (by kernel_rfl) (fun _ _ _ h => h) (by rfl) (fun w hw => by first | rfl | (go_simp; done) | (go_simp; rfl) | (go_simp; omega)) hHeld ?_
    simp only [Act.put, List.setIfInBounds_toArray, List.set_cons_zero, List.set_cons_succ]
    refine takeH 4 (some 61) (.agg (tabv (ledv 0 0 (.slice none 0 0)) 3)) rfl rfl (by kernel_rfl) (by kernel_rfl) (by kernel_rfl) (fun _ _ _ h => h) (by rfl) (fun w hw => run_load_at w 32 _ rfl gL 0 (by rfl) _ 3 _ ((LB.out.below hw LB.out.lt).at_ 0 (by omega) (fun i hi => by rw [Nat.zero_add])) Try.underlying32 rfl infoL) hHeld ?_
    simp only [Act.put, List.setIfInBounds_toArray, List.set_cons_zero, List.set_cons_succ]
    refine takeH 6 (some 63) (.agg (tabv (ledv 0 0 (.slice none 0 0)) 3)) rfl rfl (by kernel_rfl) (by kernel_rfl) (by kernel_rfl) (fun _ _ _ h => h) (by rfl) (fun w hw => run_load_at w 32 _ rfl gM 0 (by rfl) _ 3 _ ((MB.out.below hw MB.out.lt).at_ 0 (by omega) (fun i hi => by rw [Nat.zero_add])) Try.underlying32 rfl infoL) hHeld ?_
    simp only [Act.put, List.setIfInBounds_toArray, List.set_cons_zero, List.set_cons_succ]
    refine wpAnyH_ready (rs := [5]) (by kernel_rfl) (by simp) (AllReadyH.cons rfl (fun K hK => ?_) AllReadyH.nil)
    rw [if_pos (by rfl)]
    go_simp
    refine (turned_any 0 0 (([] : List Pen)) (.slice none 0 0) _ _ (OB.out.below hHeld) (by simp)).mono ?_
    rintro e wC ⟨⟨v3, rfl, oC⟩, hbC⟩
    try go_wp2_with fail
    refine hK.out _ _ (hHeld.trans (hbC.mono hHeld.size)) (fun hH => ?_)
    clear hK K hHeld
    have hHeld := hH
    clear hH
    refine wpAnyH_ready (rs := [7]) (by kernel_rfl) (by simp) (AllReadyH.cons rfl (fun K hK => ?_) AllReadyH.nil)
    rw [if_pos (by rfl)]
    go_simp
    refine (sameL_any 0 0 (([] : List Pen)) v3 (.slice none 0 0) _ _ _ oC (PB.out.below hHeld)).mono ?_
    rintro e wD ⟨rfl, hbD⟩
    try go_wp2_with fail
    refine hK.out _ _ (hHeld.trans (hbD.mono hHeld.size)) (fun hH => ?_)
    clear hK K hHeld
    have hHeld := hH
    clear hH
    refine takeH 8 (some 65) (.bool false) rfl rfl (by kernel_rfl) (by kernel_rfl) (by kernel_rfl) (fun _ _ _ h => h) (by rfl) (fun w hw => by first | rfl | (go_simp; done) | (go_simp; rfl) | (go_simp; omega)) hHeld ?_
    simp only [Act.put, List.setIfInBounds_toArray, List.set_cons_zero, List.set_cons_succ]
    refine takeH 9 (some 66) (.bool false) rfl rfl (by kernel_rfl) (by kernel_rfl) (by kernel_rfl) (fun _ _ _ h => h) (by rfl) (fun w hw => by first | rfl | (go_simp; done) | (go_simp; rfl) | (go_simp; omega)) hHeld ?_
    simp only [Act.put, List.setIfInBounds_toArray, List.set_cons_zero, List.set_cons_succ]
    refine ⟨by kernel_rfl, ?_⟩
    refine NoPanic.normal ?_
    have gbD := gbB.trans (hHeld.mono gbB.size)
    have LD := hide (LB.out.below hHeld LB.out.lt)
    have OD := hide (OB.out.below hHeld)
    go_wp2_with (first | refine wpW_load_at 32 _ rfl gL 0 (by rfl) (by rfl) (ledv 0 0 (.slice none 0 0)) 3 _ (LD.out.at_ 0 (by omega) (fun i hi => by rw [Nat.zero_add])) Try.underlying32 rfl infoL ?_ | refine wpW_build (by rfl) 32 #[] rfl [] rfl _ built_L0 ?_)
    refine (sameL_any 0 0 ([] : List Pen) (.slice none 0 0) (.slice none 0 0) _ _ _ OD.out (OwnP.nil 0 _)).mono ?_
    rintro e wE ⟨rfl, hbE⟩
    go_wp2
    go_ret
    exact ⟨rfl, gbD.trans (hbE.mono gbD.size)⟩
end Go.Proofs.Ytoomcpehdflolaa
