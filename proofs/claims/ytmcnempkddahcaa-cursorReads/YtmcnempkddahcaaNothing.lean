/-
  nothing: a value whose bytes are not all there.
-/
import Derived.Test.YtmcnempkddahcaaAgain
namespace Go.Proofs.Ytmcnempkddahcaa
open Go.RowKit
set_option linter.unusedVariables false
/-- The reader is broken by ErrShort, or has less than the value's bytes left. -/
def CutS (V : VL) (x : Nat) (st : RS) : Prop := st = (nil8, 2) ∨ ∃ l, st = (ofL l, 0) ∧ l.length < (vb V x).length ∧ l = (vb V x).take l.length
theorem cut_take {V : VL} {x : Nat} {st : RS} (h : CutS V x st) (n : Nat) (hn : (vb V x).length = n) : takeA n st = nil8 ∧ takeS n st = (nil8, 2) := by
  rcases h with rfl | ⟨l, rfl, hl, _⟩
  · exact ⟨takeA_broken _ _ _ (by decide), takeS_broken _ _ _ (by decide)⟩
  · exact ⟨takeA_short l n (by omega), takeS_short l n (by omega)⟩
theorem cut_raw {V : VL} {x : Nat} {st : RS} (h : CutS V x st) (n : Nat) (hn : (vb V x).length = n) : rawA n st = nil8 ∧ rawS n st = (nil8, 2) := by
  rcases h with rfl | ⟨l, rfl, hl, _⟩
  · exact raw_broken _ _ _ (by decide)
  · exact raw_short l n (by omega)
theorem cut_text {V : VL} {x : Nat} {st : RS} (h : CutS V x st) (t : List UInt8) (hv : vb V x = nb t.length 2 ++ t) (ht : t.length ≤ 65535) : textA (t.length : Int) st = nil8 ∧ textS (t.length : Int) st = (nil8, 2) := by
  rcases h with rfl | ⟨l, rfl, hl, he⟩
  · exact text_broken _ _ _ (by decide)
  · by_cases h2 : l.length < 2
    · exact text_less l _ h2
    · rw [hv] at he hl
      rw [List.length_append, nb_length] at hl
      have e : l = nb t.length 2 ++ t.take (l.length - 2) := by
        rw [List.take_append, nb_length, List.take_of_length_le (by rw [nb_length]; omega)] at he
        exact he
      rw [e]
      exact text_cut _ _ _ ht (Int.le_refl _) (by rw [List.length_take]; omega)
theorem CutS.size {V : VL} {x : Nat} {st : RS} (h : CutS V x st) (hS : V.S.size ≤ 1048576) : st.1.size ≤ 281474976710656 := by
  rcases h with rfl | ⟨l, rfl, hl, _⟩
  · exact Nat.zero_le _
  · have := vb_length V x hS
    show (ofL l).size ≤ _
    rw [ofL_size]; omega
theorem hOf_nil : bv (hOf nil8) = fun _ => .int .u8 0 := by
  funext i; unfold bv hOf byteAt nil8; simp
theorem wpList_bin {ops : Array Oper} {rest : List Oper} {o : Oper} {a : Act} {w : World} {Q : Exit → Act → World → Prop} (hgd : o.guard = none) (x y : Operand) (u : TypeId) (ho : o.op = .binOp .eql 54 x y u) (f g : Nat → UInt8) (hx : a.eval x = .agg (tabv (bv f) 32)) (hy : a.eval y = .agg (tabv (bv g) 32)) (hfg : ∀ i, i < 32 → f i = g i)
    (h : wpList Try.prog ops Q rest (a.put o.dst (.bool true)) w) : wpList Try.prog ops Q (o :: rest) a w := by
  have hr := run_eq_hash (a := a) x y u ho f g hx hy hfg w
  refine wpList_plain hgd fun K hK => ?_
  unfold Oper.wp
  rw [hr]
  exact hK _ _ h

set_option maxRecDepth 5000 in
set_option maxHeartbeats 4000000 in
theorem nothing_0 (V : VL) (x : Nat) (hV : V.ok x) (hk : kd V.K = 0) (hlong : longB V = false) (p : Nat) (st : RS) (w : World) (hC : CR w p st) (hcut : CutS V x st) :
    Calls Try.prog 34 #[.pointer (some ⟨p, 0, none⟩), .agg (tabv (vv V) 37)] w fun e w' => e = .returned (.bool true) ∧ CR w' p (nil8, 2) ∧ Mr p w w' := by
  have g0 := Has.new w 56 (vv V) 37 _ rfl
  have gb := (Below.refl w.heap.size w).alloc (Nat.le_refl _) (.cells (tabv (vv V) 37) 56)
  have HG := hide gb
  have HH := hide g0
  have HK := hide (valKind V)
  rw [hk] at HK
  have hv := vb_at V x 0 hk
  rw [if_pos rfl] at hv
  obtain ⟨a1, a2⟩ := cut_take hcut 1 (by rw [hv, nb_length])
  have HA : Hid (((be (takeA 1 st).data.toList : Nat) : Int) = 0) := by
    show ((be (takeA (((1 : Nat)) : Int) st).data.toList : Nat) : Int) = 0
    rw [a1]; rfl
  have HN : Hid (takeS 1 st = (nil8, 2)) := a2
  clear a1 a2
  have HC := hide (hC.below gb)
  have HY := hide (hcut.size hV.s)
  clear g0 gb hC hv hcut
  go_enter Try.func34, Try.ntmps34
  go_wp2_with (refine wpList_load_part rfl 56 _ rfl w.heap.size 0 rfl 56 _ 37 37 _ HH.out (by omega) Try.underlying56 rfl info56 (vv V) (fun i _ => by rw [Nat.zero_add]) ?_)
  refine (HK.out _).mono ?_
  rintro e w1 ⟨rfl, hb1⟩
  have HH1 := hide (HH.out.below hb1 HH.out.lt)
  have hC1 := HC.out.below hb1
  have hM1 : Mr p w w1 := Mr.of (HG.out.trans (hb1.mono HG.out.size))
  clear hb1 HK HC HH
  go_wp2_with fail
  refine (rU8 p st _ hC1).mono ?_
  rintro e w3 ⟨rfl, h3, hM3⟩
  rw [HN.out] at h3
  rw [HA.out]
  go_wp2
  go_ret
  exact ⟨rfl, h3, hM1.trans hM3⟩
set_option maxRecDepth 5000 in
set_option maxHeartbeats 4000000 in
theorem nothing_1 (V : VL) (x : Nat) (hV : V.ok x) (hk : kd V.K = 1) (hlong : longB V = false) (p : Nat) (st : RS) (w : World) (hC : CR w p st) (hcut : CutS V x st) :
    Calls Try.prog 34 #[.pointer (some ⟨p, 0, none⟩), .agg (tabv (vv V) 37)] w fun e w' => e = .returned (.bool true) ∧ CR w' p (nil8, 2) ∧ Mr p w w' := by
  have g0 := Has.new w 56 (vv V) 37 _ rfl
  have gb := (Below.refl w.heap.size w).alloc (Nat.le_refl _) (.cells (tabv (vv V) 37) 56)
  have HG := hide gb
  have HH := hide g0
  have HK := hide (valKind V)
  rw [hk] at HK
  have hv := vb_at V x 1 hk
  rw [if_neg (by decide), if_pos rfl] at hv
  obtain ⟨a1, a2⟩ := cut_take hcut 2 (by rw [hv, nb_length])
  have HA : Hid (((be (takeA 2 st).data.toList : Nat) : Int) = 0) := by
    show ((be (takeA (((2 : Nat)) : Int) st).data.toList : Nat) : Int) = 0
    rw [a1]; rfl
  have HN : Hid (takeS 2 st = (nil8, 2)) := a2
  clear a1 a2
  have HC := hide (hC.below gb)
  have HY := hide (hcut.size hV.s)
  clear g0 gb hC hv hcut
  go_enter Try.func34, Try.ntmps34
  go_wp2_with (refine wpList_load_part rfl 56 _ rfl w.heap.size 0 rfl 56 _ 37 37 _ HH.out (by omega) Try.underlying56 rfl info56 (vv V) (fun i _ => by rw [Nat.zero_add]) ?_)
  refine (HK.out _).mono ?_
  rintro e w1 ⟨rfl, hb1⟩
  have HH1 := hide (HH.out.below hb1 HH.out.lt)
  have hC1 := HC.out.below hb1
  have hM1 : Mr p w w1 := Mr.of (HG.out.trans (hb1.mono HG.out.size))
  clear hb1 HK HC HH
  go_wp2_with fail
  refine (rU16 p st _ hC1).mono ?_
  rintro e w3 ⟨rfl, h3, hM3⟩
  rw [HN.out] at h3
  rw [HA.out]
  go_wp2
  go_ret
  exact ⟨rfl, h3, hM1.trans hM3⟩
set_option maxRecDepth 5000 in
set_option maxHeartbeats 4000000 in
theorem nothing_2 (V : VL) (x : Nat) (hV : V.ok x) (hk : kd V.K = 2) (hlong : longB V = false) (p : Nat) (st : RS) (w : World) (hC : CR w p st) (hcut : CutS V x st) :
    Calls Try.prog 34 #[.pointer (some ⟨p, 0, none⟩), .agg (tabv (vv V) 37)] w fun e w' => e = .returned (.bool true) ∧ CR w' p (nil8, 2) ∧ Mr p w w' := by
  have g0 := Has.new w 56 (vv V) 37 _ rfl
  have gb := (Below.refl w.heap.size w).alloc (Nat.le_refl _) (.cells (tabv (vv V) 37) 56)
  have HG := hide gb
  have HH := hide g0
  have HK := hide (valKind V)
  rw [hk] at HK
  have hv := vb_at V x 2 hk
  rw [if_neg (by decide), if_neg (by decide), if_pos rfl] at hv
  obtain ⟨a1, a2⟩ := cut_take hcut 4 (by rw [hv, nb_length])
  have HA : Hid (((be (takeA 4 st).data.toList : Nat) : Int) = 0) := by
    show ((be (takeA (((4 : Nat)) : Int) st).data.toList : Nat) : Int) = 0
    rw [a1]; rfl
  have HN : Hid (takeS 4 st = (nil8, 2)) := a2
  clear a1 a2
  have HC := hide (hC.below gb)
  have HY := hide (hcut.size hV.s)
  clear g0 gb hC hv hcut
  go_enter Try.func34, Try.ntmps34
  go_wp2_with (refine wpList_load_part rfl 56 _ rfl w.heap.size 0 rfl 56 _ 37 37 _ HH.out (by omega) Try.underlying56 rfl info56 (vv V) (fun i _ => by rw [Nat.zero_add]) ?_)
  refine (HK.out _).mono ?_
  rintro e w1 ⟨rfl, hb1⟩
  have HH1 := hide (HH.out.below hb1 HH.out.lt)
  have hC1 := HC.out.below hb1
  have hM1 : Mr p w w1 := Mr.of (HG.out.trans (hb1.mono HG.out.size))
  clear hb1 HK HC HH
  go_wp2_with fail
  refine (rU32 p st _ hC1).mono ?_
  rintro e w3 ⟨rfl, h3, hM3⟩
  rw [HN.out] at h3
  rw [HA.out]
  go_wp2
  go_ret
  exact ⟨rfl, h3, hM1.trans hM3⟩
set_option maxRecDepth 5000 in
set_option maxHeartbeats 4000000 in
theorem nothing_3 (V : VL) (x : Nat) (hV : V.ok x) (hk : kd V.K = 3) (hlong : longB V = false) (p : Nat) (st : RS) (w : World) (hC : CR w p st) (hcut : CutS V x st) :
    Calls Try.prog 34 #[.pointer (some ⟨p, 0, none⟩), .agg (tabv (vv V) 37)] w fun e w' => e = .returned (.bool true) ∧ CR w' p (nil8, 2) ∧ Mr p w w' := by
  have g0 := Has.new w 56 (vv V) 37 _ rfl
  have gb := (Below.refl w.heap.size w).alloc (Nat.le_refl _) (.cells (tabv (vv V) 37) 56)
  have HG := hide gb
  have HH := hide g0
  have HK := hide (valKind V)
  rw [hk] at HK
  have hv := vb_at V x 3 hk
  rw [if_neg (by decide), if_neg (by decide), if_neg (by decide), if_pos rfl] at hv
  obtain ⟨a1, a2⟩ := cut_take hcut 8 (by rw [hv, nb_length])
  have HA : Hid (((be (takeA 8 st).data.toList : Nat) : Int) = 0) := by
    show ((be (takeA (((8 : Nat)) : Int) st).data.toList : Nat) : Int) = 0
    rw [a1]; rfl
  have HN : Hid (takeS 8 st = (nil8, 2)) := a2
  clear a1 a2
  have HC := hide (hC.below gb)
  have HY := hide (hcut.size hV.s)
  clear g0 gb hC hv hcut
  go_enter Try.func34, Try.ntmps34
  go_wp2_with (refine wpList_load_part rfl 56 _ rfl w.heap.size 0 rfl 56 _ 37 37 _ HH.out (by omega) Try.underlying56 rfl info56 (vv V) (fun i _ => by rw [Nat.zero_add]) ?_)
  refine (HK.out _).mono ?_
  rintro e w1 ⟨rfl, hb1⟩
  have HH1 := hide (HH.out.below hb1 HH.out.lt)
  have hC1 := HC.out.below hb1
  have hM1 : Mr p w w1 := Mr.of (HG.out.trans (hb1.mono HG.out.size))
  clear hb1 HK HC HH
  go_wp2_with fail
  refine (rU64 p st _ hC1).mono ?_
  rintro e w3 ⟨rfl, h3, hM3⟩
  rw [HN.out] at h3
  rw [HA.out]
  go_wp2
  go_ret
  exact ⟨rfl, h3, hM1.trans hM3⟩
set_option maxRecDepth 5000 in
set_option maxHeartbeats 4000000 in
theorem nothing_4 (V : VL) (x : Nat) (hV : V.ok x) (hk : kd V.K = 4) (hlong : longB V = false) (p : Nat) (st : RS) (w : World) (hC : CR w p st) (hcut : CutS V x st) :
    Calls Try.prog 34 #[.pointer (some ⟨p, 0, none⟩), .agg (tabv (vv V) 37)] w fun e w' => e = .returned (.bool true) ∧ CR w' p (nil8, 2) ∧ Mr p w w' := by
  have g0 := Has.new w 56 (vv V) 37 _ rfl
  have gb := (Below.refl w.heap.size w).alloc (Nat.le_refl _) (.cells (tabv (vv V) 37) 56)
  have HG := hide gb
  have HH := hide g0
  have HK := hide (valKind V)
  rw [hk] at HK
  have hv := vb_at V x 4 hk
  rw [if_neg (by decide), if_neg (by decide), if_neg (by decide), if_neg (by decide), if_pos rfl] at hv
  obtain ⟨a1, a2⟩ := cut_take hcut 8 (by rw [hv, nb_length])
  have HA : Hid (IntKind.i64.wrap (num 8 st : Int) = 0) := by
    show IntKind.i64.wrap ((be (takeA (((8 : Nat)) : Int) st).data.toList : Nat) : Int) = 0
    rw [a1]; decide
  have HN : Hid (takeS 8 st = (nil8, 2)) := a2
  clear a1 a2
  have HC := hide (hC.below gb)
  have HY := hide (hcut.size hV.s)
  clear g0 gb hC hv hcut
  go_enter Try.func34, Try.ntmps34
  go_wp2_with (refine wpList_load_part rfl 56 _ rfl w.heap.size 0 rfl 56 _ 37 37 _ HH.out (by omega) Try.underlying56 rfl info56 (vv V) (fun i _ => by rw [Nat.zero_add]) ?_)
  refine (HK.out _).mono ?_
  rintro e w1 ⟨rfl, hb1⟩
  have HH1 := hide (HH.out.below hb1 HH.out.lt)
  have hC1 := HC.out.below hb1
  have hM1 : Mr p w w1 := Mr.of (HG.out.trans (hb1.mono HG.out.size))
  clear hb1 HK HC HH
  go_wp2_with fail
  refine (rI64 p st _ hC1 0 HA.out).mono ?_
  rintro e w3 ⟨rfl, h3, hM3⟩
  rw [HN.out] at h3
  go_wp2
  go_ret
  exact ⟨rfl, h3, hM1.trans hM3⟩
set_option maxRecDepth 5000 in
set_option maxHeartbeats 4000000 in
theorem nothing_5 (V : VL) (x : Nat) (hV : V.ok x) (hk : kd V.K = 5) (hlong : longB V = false) (p : Nat) (st : RS) (w : World) (hC : CR w p st) (hcut : CutS V x st) :
    Calls Try.prog 34 #[.pointer (some ⟨p, 0, none⟩), .agg (tabv (vv V) 37)] w fun e w' => e = .returned (.bool true) ∧ CR w' p (nil8, 2) ∧ Mr p w w' := by
  have g0 := Has.new w 56 (vv V) 37 _ rfl
  have gb := (Below.refl w.heap.size w).alloc (Nat.le_refl _) (.cells (tabv (vv V) 37) 56)
  have HG := hide gb
  have HH := hide g0
  have HK := hide (valKind V)
  rw [hk] at HK
  have hv := vb_at V x 5 hk
  rw [if_neg (by decide), if_neg (by decide), if_neg (by decide), if_neg (by decide), if_neg (by decide), if_pos rfl] at hv
  obtain ⟨a1, a2⟩ := cut_take hcut 32 (by rw [hv, hl_length])
  have HA : Hid (takeA 32 st = nil8) := a1
  have HN : Hid (takeS 32 st = (nil8, 2)) := a2
  clear a1 a2
  have HC := hide (hC.below gb)
  have HY := hide (hcut.size hV.s)
  clear g0 gb hC hv hcut
  go_enter Try.func34, Try.ntmps34
  go_wp2_with (refine wpList_load_part rfl 56 _ rfl w.heap.size 0 rfl 56 _ 37 37 _ HH.out (by omega) Try.underlying56 rfl info56 (vv V) (fun i _ => by rw [Nat.zero_add]) ?_)
  refine (HK.out _).mono ?_
  rintro e w1 ⟨rfl, hb1⟩
  have HH1 := hide (HH.out.below hb1 HH.out.lt)
  have hC1 := HC.out.below hb1
  have hM1 : Mr p w w1 := Mr.of (HG.out.trans (hb1.mono HG.out.size))
  clear hb1 HK HC HH
  go_wp2_with fail
  refine (rHash p st _ hC1).mono ?_
  rintro e w3 ⟨rfl, h3, hM3⟩
  rw [HN.out] at h3
  rw [HA.out]
  go_wp2_with (refine wpList_bin rfl _ _ _ rfl (hOf nil8) (hOf nil8) (by rfl) (by rw [hOf_nil]; rfl) (fun _ _ => rfl) ?_)
  go_ret
  exact ⟨rfl, h3, hM1.trans hM3⟩
set_option maxRecDepth 5000 in
set_option maxHeartbeats 4000000 in
theorem nothing_6 (V : VL) (x : Nat) (hV : V.ok x) (hk : kd V.K = 6) (hlong : longB V = false) (p : Nat) (st : RS) (w : World) (hC : CR w p st) (hcut : CutS V x st) :
    Calls Try.prog 34 #[.pointer (some ⟨p, 0, none⟩), .agg (tabv (vv V) 37)] w fun e w' => e = .returned (.bool true) ∧ CR w' p (nil8, 2) ∧ Mr p w w' := by
  have g0 := Has.new w 56 (vv V) 37 _ rfl
  have gb := (Below.refl w.heap.size w).alloc (Nat.le_refl _) (.cells (tabv (vv V) 37) 56)
  have HG := hide gb
  have HH := hide g0
  have HK := hide (valKind V)
  rw [hk] at HK
  have hv := vb_at V x 6 hk
  rw [if_neg (by decide), if_neg (by decide), if_neg (by decide), if_neg (by decide), if_neg (by decide), if_neg (by decide), if_pos rfl] at hv
  have HT := hide (fun w => valText V w hV.s)
  have hlt : (textOf V).size ≤ 65535 := by
    unfold longB at hlong
    rw [hk, decide_eq_true rfl, Bool.true_and, decide_eq_false_iff_not] at hlong
    omega
  obtain ⟨a1, a2⟩ := cut_text hcut (textOf V).data.toList (by rw [hv, str_len]) (by rw [str_len]; exact hlt)
  rw [str_len] at a1 a2
  obtain ⟨t, ht⟩ : ∃ t, textOf V = t := ⟨_, rfl⟩
  rw [ht] at a1 a2 HT
  have HA := hide a1
  have HN := hide a2
  clear a1 a2 ht
  have HC := hide (hC.below gb)
  have HY := hide (hcut.size hV.s)
  clear g0 gb hC hv hcut
  go_enter Try.func34, Try.ntmps34
  go_wp2_with (refine wpList_load_part rfl 56 _ rfl w.heap.size 0 rfl 56 _ 37 37 _ HH.out (by omega) Try.underlying56 rfl info56 (vv V) (fun i _ => by rw [Nat.zero_add]) ?_)
  refine (HK.out _).mono ?_
  rintro e w1 ⟨rfl, hb1⟩
  have HH1 := hide (HH.out.below hb1 HH.out.lt)
  have hC1 := HC.out.below hb1
  have hM1 : Mr p w w1 := Mr.of (HG.out.trans (hb1.mono HG.out.size))
  clear hb1 HK HC HH
  go_wp2_with (first | (refine wpList_load_part rfl 56 _ rfl w.heap.size 0 rfl 56 _ 37 37 _ HH1.out (by omega) Try.underlying56 rfl info56 (vv V) (fun i _ => by rw [Nat.zero_add]) ?_) | fail)
  refine (HT.out _).mono ?_
  rintro e w2 ⟨rfl, hb2⟩
  have hC2 := hC1.below hb2
  have hM1 := hM1.trans (Mr.of hb2)
  clear hC1 hb2
  go_wp2_with fail
  refine (rText (t.size : Int) p st _ hC2 HY.out).mono ?_
  rintro e w3 ⟨rfl, h3, hM3⟩
  rw [HN.out] at h3
  rw [HA.out]
  have hn8 : nil8 = { data := #[] } := rfl
  rw [hn8] at h3 ⊢
  go_wp2
  go_ret
  exact ⟨rfl, h3, hM1.trans hM3⟩
set_option maxRecDepth 5000 in
set_option maxHeartbeats 4000000 in
theorem nothing_7 (V : VL) (x : Nat) (hV : V.ok x) (hk : kd V.K = 7) (hlong : longB V = false) (p : Nat) (st : RS) (w : World) (hC : CR w p st) (hcut : CutS V x st) :
    Calls Try.prog 34 #[.pointer (some ⟨p, 0, none⟩), .agg (tabv (vv V) 37)] w fun e w' => e = .returned (.bool true) ∧ CR w' p (nil8, 2) ∧ Mr p w w' := by
  have g0 := Has.new w 56 (vv V) 37 _ rfl
  have gb := (Below.refl w.heap.size w).alloc (Nat.le_refl _) (.cells (tabv (vv V) 37) 56)
  have HG := hide gb
  have HH := hide g0
  have HK := hide (valKind V)
  rw [hk] at HK
  have hv := vb_at V x 7 hk
  rw [if_neg (by decide), if_neg (by decide), if_neg (by decide), if_neg (by decide), if_neg (by decide), if_neg (by decide), if_neg (by decide)] at hv
  have HT := hide (fun w => valText V w hV.s)
  obtain ⟨a1, a2⟩ := cut_raw hcut (textOf V).size (by rw [hv, str_len])
  obtain ⟨t, ht⟩ : ∃ t, textOf V = t := ⟨_, rfl⟩
  rw [ht] at a1 a2 HT
  have HA := hide a1
  have HN := hide a2
  clear a1 a2 ht
  have HC := hide (hC.below gb)
  have HY := hide (hcut.size hV.s)
  clear g0 gb hC hv hcut
  go_enter Try.func34, Try.ntmps34
  go_wp2_with (refine wpList_load_part rfl 56 _ rfl w.heap.size 0 rfl 56 _ 37 37 _ HH.out (by omega) Try.underlying56 rfl info56 (vv V) (fun i _ => by rw [Nat.zero_add]) ?_)
  refine (HK.out _).mono ?_
  rintro e w1 ⟨rfl, hb1⟩
  have HH1 := hide (HH.out.below hb1 HH.out.lt)
  have hC1 := HC.out.below hb1
  have hM1 : Mr p w w1 := Mr.of (HG.out.trans (hb1.mono HG.out.size))
  clear hb1 HK HC HH
  go_wp2_with (first | (refine wpList_load_part rfl 56 _ rfl w.heap.size 0 rfl 56 _ 37 37 _ HH1.out (by omega) Try.underlying56 rfl info56 (vv V) (fun i _ => by rw [Nat.zero_add]) ?_) | fail)
  refine (HT.out _).mono ?_
  rintro e w2 ⟨rfl, hb2⟩
  have hC2 := hC1.below hb2
  have hM1 := hM1.trans (Mr.of hb2)
  clear hC1 hb2
  go_wp2_with fail
  refine (rRaw (t.size : Int) p st _ hC2 HY.out).mono ?_
  rintro e w3 ⟨rfl, h3, hM3⟩
  rw [HN.out] at h3
  rw [HA.out]
  have hn8 : nil8 = { data := #[] } := rfl
  rw [hn8] at h3 ⊢
  go_wp2
  go_ret
  exact ⟨rfl, h3, hM1.trans hM3⟩
theorem nothing_any (V : VL) (x : Nat) (hV : V.ok x) (hlong : longB V = false) (p : Nat) (st : RS) (w : World) (hC : CR w p st) (hcut : CutS V x st) :
    Calls Try.prog 34 #[.pointer (some ⟨p, 0, none⟩), .agg (tabv (vv V) 37)] w fun e w' => e = .returned (.bool true) ∧ CR w' p (nil8, 2) ∧ Mr p w w' := by
  rcases kd_cases V.K with h | h | h | h | h | h | h | h
  · exact nothing_0 V x hV h hlong p st w hC hcut
  · exact nothing_1 V x hV h hlong p st w hC hcut
  · exact nothing_2 V x hV h hlong p st w hC hcut
  · exact nothing_3 V x hV h hlong p st w hC hcut
  · exact nothing_4 V x hV h hlong p st w hC hcut
  · exact nothing_5 V x hV h hlong p st w hC hcut
  · exact nothing_6 V x hV h hlong p st w hC hcut
  · exact nothing_7 V x hV h hlong p st w hC hcut
end Go.Proofs.Ytmcnempkddahcaa
