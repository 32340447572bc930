import Derived.Test.YtmmcoedgoekhgaaGreatDoorPWith
import Derived.BigQuiet
import Derived.Laws.AppendOwn
import Derived.Test.YtmmcoedgoekhgaaGreatDoorULent
/-
  The code's shelf: Put.
-/
namespace Go.Proofs.YtmmcoedgoekhgaaGreatDoor
set_option maxRecDepth 20000
open Go.RowKit S
set_option linter.unusedVariables false
set_option linter.unusedSimpArgs false
set_option maxRecDepth 100000 in
theorem builtS (x : Int) (h : Nat → UInt8) (b : Bool) : Tryz.prog.built 106 [(0, .int .i64 x), (1, .agg (tabv (bv h) 32)), (2, .bool b)] = some (tabv (Slot.v ⟨x, h, b⟩) 34) := by kernel_rfl
section
variable {ops : Array Oper} {rest : List Oper} {o : Oper} {a : Act} {w : World} {Q : Exit → Act → World → Prop}
theorem wpList_buildS (hgd : o.guard = none) (p0 p1 : Operand) (b : Bool) (ho : o.op = .build 106 #[(0, p0), (1, p1), (2, .const (.bool b))]) (x : Int) (h : Nat → UInt8) (h0 : a.eval p0 = .int .i64 x) (h1 : a.eval p1 = .agg (tabv (bv h) 32))
    (hk : wpList Tryz.prog ops Q rest (a.put o.dst (.agg (tabv (Slot.v ⟨x, h, b⟩) 34))) w) : wpList Tryz.prog ops Q (o :: rest) a w :=
  wpList_plain hgd fun K hK => by
    have e : ((#[(0, p0), (1, p1), (2, .const (.bool b))] : Array (Nat × Operand)).map fun (i, y) => (i, a.eval y)).toList = [(0, .int .i64 x), (1, .agg (tabv (bv h) 32)), (2, .bool b)] := by
      rw [Array.toList_map]
      show [(0, a.eval p0), (1, a.eval p1), (2, a.eval (.const (.bool b)))] = _
      rw [h0, h1]
      rfl
    refine wp_build _ _ ho (by rw [e, builtS]; rfl) ?_
    rw [e, builtS]
    exact hK _ _ hk
end
set_option maxRecDepth 100000 in
set_option maxHeartbeats 1000000 in
theorem put_any (ad : Option Addr) (n cap : Nat) (l : List Slot) (hn : l.length = n) (x : Int) (h : Nat → UInt8) (w : World) (hG : Glob num w) (hS : Slots w ad l) : Calls Tryz.prog 55 #[.slice ad n cap, .int .i64 x, .agg (tabv (bv h) 32)] w fun e w' => (∃ v, e = .returned (.tuple #[v, .int .i64 (putA l x h).2]) ∧ OwnS w.heap.size w' v (putA l x h).1) ∧ Below w.heap.size w w' := by
  obtain ⟨w3, hW⟩ : ∃ w3, w.alloc (.cells (tabv (bv h) 32) 23) = w3 := ⟨_, rfl⟩
  have g0 : Has w3 w.heap.size 23 (bv h) 32 := by rw [← hW]; exact Has.new w 23 (bv h) 32 _ rfl
  have gb : Below w.heap.size w w3 := by rw [← hW]; exact (Below.refl w.heap.size w).alloc (Nat.le_refl _) _
  by_cases hl : 49 < n
  · have hd : decide ((49 : Int) < (n : Int)) = true := by simp; omega
    have e : putA l x h = ([], 1) := by unfold putA; rw [if_pos (by omega)]
    rw [e]
    go_enter Tryz.func55, Tryz.ntmps55
    go_wp2
    go_ret2
    exact ⟨⟨_, rfl, OwnS.nil _ _⟩, gb⟩
  have hd : decide ((49 : Int) < (n : Int)) = false := by simp; omega
  cases hx : isN x with
  | false =>
    have e : putA l x h = ([], 90) := by unfold putA; rw [if_neg (by omega), if_pos hx]
    have e2 : levelA x = (0, 90) := by unfold levelA; rw [if_neg (by rw [hx]; decide)]
    rw [e]
    have E2 := hide e2
    clear hx e e2
    go_enter Tryz.func55, Tryz.ntmps55
    go_wp2_with fail
    refine (sLevel_any x _).mono ?_
    rw [E2.out]
    rintro e w1 ⟨rfl, hb1⟩
    go_wp2
    go_ret2
    exact ⟨⟨_, rfl, OwnS.nil _ _⟩, gb.trans (hb1.mono gb.size)⟩
  | true =>
    have e2 : levelA x = ((lvl (place x.toNat) 48 : Int), 0) := by unfold levelA; rw [if_pos hx]
    have e : putA l x h = if (List.range (lvl (place x.toNat) 48)).all (okAt l h x) = true then (withA l (lvl (place x.toNat) 48) ⟨x, h, true⟩, 0) else ([], 100) := by
      unfold putA; rw [if_neg (by omega), if_neg (by rw [hx]; decide)]
    have hL := lvl_le 48 (place x.toNat)
    obtain ⟨L, hLL⟩ : ∃ L, lvl (place x.toNat) 48 = L := ⟨_, rfl⟩
    rw [hLL] at e e2 hL
    obtain ⟨A, hA⟩ : ∃ A, putA l x h = A := ⟨_, rfl⟩
    rw [hA] at e ⊢
    have E := hide e
    have E2 := hide e2
    clear hx e e2 hLL hA
    go_enter Tryz.func55, Tryz.ntmps55
    go_wp2_with fail
    refine (sLevel_any x _).mono ?_
    rw [E2.out]
    rintro e w1 ⟨rfl, hb1⟩
    have k0 := g0.below hb1 g0.lt
    have kb := gb.trans (hb1.mono gb.size)
    clear g0 gb hb1 hW
    obtain ⟨w2, hW2⟩ : ∃ w2, w1.alloc (.cells (tabv Slot.zero.v 34) 106) = w2 := ⟨_, rfl⟩
    obtain ⟨G, hGG⟩ : ∃ G, w1.heap.size = G := ⟨_, rfl⟩
    have q1 : Has w2 G 106 Slot.zero.v 34 := by rw [← hW2, ← hGG]; exact Has.new w1 106 Slot.zero.v 34 _ rfl
    have qb : Below w.heap.size w w2 := by rw [← hW2]; exact kb.alloc kb.size _
    have hGe : w.heap.size ≤ G := by rw [← hGG]; exact kb.size
    have m1 := q1.row _ (Slot.v ⟨x, h, true⟩) rfl
    have mb := below_setRow qb hGe (tabv (Slot.v ⟨x, h, true⟩) 34)
    rw [← zero34] at hW2
    clear qb kb
    go_wp2_with (first | refine wpList_load_part rfl 23 _ rfl w.heap.size 0 rfl 23 _ 32 32 _ k0 (by omega) Tryz.underlying23 rfl info26 (bv h) (fun i hi => by rw [Nat.zero_add]) ?_ | refine wpList_buildS rfl _ _ true rfl x h rfl rfl ?_ | refine wpList_storeS rfl _ _ rfl rfl G ⟨x, h, true⟩ rfl rfl _ q1 ?_)
    generalize World.setRow w2 _ _ = w4 at m1 mb ⊢
    clear q1 hW2 k0
    go_loopw [28] (fun i wr => ∃ j : Nat, j ≤ L ∧ i = .int .i64 j ∧ Hid ((List.range j).all (okAt l h x) = true) ∧ Has wr G 106 (Slot.v ⟨x, h, true⟩) 34 ∧ Below w.heap.size w wr) (fun i _ => L - (intOf i).toNat)
    case atStart => exact ⟨0, by omega, rfl, hide rfl, m1, mb⟩
    case round =>
      clear m1 mb
      obtain ⟨j, hj, rfl, HJ, g1, gb⟩ := hrel
      have hSr := hS.below gb
      by_cases hlt : j < L
      · have hd : decide ((j : Int) < (L : Int)) = true := by simp; omega
        have hk0 : (0 : Int) ≤ (j : Int) := by omega
        go_wp2_with fail
        refine (at_any ad n cap l hn j _ hSr).mono ?_
        rintro e w5 ⟨rfl, hb5⟩
        have k1 := g1.below hb5 g1.lt
        have kb := gb.trans (hb5.mono gb.size)
        clear g1 gb hSr hb5
        obtain ⟨s, hs⟩ : ∃ s, atA l j = s := ⟨_, rfl⟩
        have HS := hide hs
        rw [hs]
        clear hs
        obtain ⟨w6, hW6⟩ : ∃ w6, w5.alloc (.cells (tabv Slot.zero.v 34) 106) = w6 := ⟨_, rfl⟩
        obtain ⟨G2, hG2⟩ : ∃ G2, w5.heap.size = G2 := ⟨_, rfl⟩
        have q1 : Has w6 G2 106 Slot.zero.v 34 := by rw [← hW6, ← hG2]; exact Has.new w5 106 Slot.zero.v 34 _ rfl
        have qb : Below w.heap.size w w6 := by rw [← hW6]; exact kb.alloc kb.size _
        have q0 : Has w6 G 106 (Slot.v ⟨x, h, true⟩) 34 := by rw [← hW6]; exact k1.old _
        have hne : G ≠ G2 := by rw [← hG2]; exact Nat.ne_of_lt k1.lt
        have hge2 : w.heap.size ≤ G2 := by rw [← hG2]; exact kb.size
        rw [← zero34] at hW6
        have r0 := q0.row_other G2 (tabv s.v 34) hne
        have r1 := q1.row _ s.v rfl
        have rb := below_setRow qb hge2 (tabv s.v 34)
        have rG : Glob num (w6.setRow G2 (tabv s.v 34)) := hG.up rb
        clear k1 kb qb q0
        have c33 : (w6.setRow G2 (tabv s.v 34)).cell? ⟨G2, 33, none⟩ = some (.bool s.full) := r1.cell 33 (by omega)
        cases hf : s.full with
        | false =>
          rw [hf] at c33
          have hok : okAt l h x j = true := by unfold okAt; rw [HS.out, hf]; rfl
          have HO := hide hok
          clear hf hok
          go_wp2_with (refine wpList_storeS rfl _ _ rfl rfl G2 s rfl rfl _ q1 ?_)
          go_roundw
          case rel => exact ⟨j + 1, by omega, by go_num, hide (by rw [List.range_succ, List.all_append, HJ.out]; simp [HO.out]), r0, rb⟩
          case measure => simp [intOf]; omega
        | true =>
          rw [hf] at c33
          have hok : okAt l h x j = agreeB h x s := by unfold okAt; rw [HS.out, hf]; rfl
          have HO := hide hok
          clear hf hok
          go_wp2_with (first | refine wpList_storeS rfl _ _ rfl rfl G2 s rfl rfl _ q1 ?_ | refine wpList_load_want (by rfl) 106 _ rfl G 0 rfl 106 _ 34 34 _ r0 (by omega) Tryz.underlying106 rfl infoS (Slot.v ⟨x, h, true⟩) (fun i hi => by rw [Nat.zero_add]) ?_ | refine wpList_load_want (by rfl) 106 _ rfl G2 0 rfl 106 _ 34 34 _ r1 (by omega) Tryz.underlying106 rfl infoS s.v (fun i hi => by rw [Nat.zero_add]) ?_)
          refine (agrees_any ⟨x, h, true⟩ s _ rG).mono ?_
          rintro e w7 ⟨rfl, hb7⟩
          have t0 := r0.below hb7 r0.lt
          have tb := rb.trans (hb7.mono rb.size)
          clear r0 r1 rb rG hb7 q1 c33
          simp only
          cases hg : agreeB h x s with
          | true =>
            have hok2 := hide (HO.out.trans hg)
            clear hg HO
            go_wp2
            go_roundw
            case rel => exact ⟨j + 1, by omega, by go_num, hide (by rw [List.range_succ, List.all_append, HJ.out]; simp [hok2.out]), t0, tb⟩
            case measure => simp [intOf]; omega
          | false =>
            have hok2 := hide (HO.out.trans hg)
            clear hg HO
            go_wp2
            go_ret2
            have hA : A = ([], 100) := by
              rw [E.out, if_neg]
              intro hall
              rw [List.all_eq_true] at hall
              rw [hall j (List.mem_range.2 hlt)] at hok2
              exact absurd hok2.out (by decide)
            rw [hA]
            exact ⟨⟨_, rfl, OwnS.nil _ _⟩, tb⟩
      · have hjL : j = L := by omega
        subst hjL
        have hd : decide ((j : Int) < (j : Int)) = false := by simp
        have hA : A = (withA l j ⟨x, h, true⟩, 0) := by rw [E.out, if_pos HJ.out]
        clear E
        subst hA
        go_wp2_with (refine wpList_load_part rfl 106 _ rfl G 0 rfl 106 _ 34 34 _ g1 (by omega) Tryz.underlying106 rfl infoS (Slot.v ⟨x, h, true⟩) (fun i hi => by rw [Nat.zero_add]) ?_)
        refine (with_any ad n cap l hn j (by omega) ⟨x, h, true⟩ _ hSr).mono ?_
        rintro e w7 ⟨⟨g, rfl, hg, hr⟩, hb7⟩
        have tb := gb.trans (hb7.mono gb.size)
        have ho : OwnS w.heap.size w7 (.slice (some ⟨g, 0, none⟩) 49 49) (withA l j ⟨x, h, true⟩) := own_row hr (Nat.le_trans gb.size hg) (by decide)
        clear hr hb7 g1 gb hSr
        go_wp2
        go_ret2
        exact ⟨⟨_, rfl, ho⟩, tb⟩
end Go.Proofs.YtmmcoedgoekhgaaGreatDoor
/-
  The code's shelf: Get.
-/
namespace Go.Proofs.YtmmcoedgoekhgaaGreatDoor
set_option maxRecDepth 20000
open Go.RowKit S
set_option linter.unusedVariables false
set_option linter.unusedSimpArgs false
end Go.Proofs.YtmmcoedgoekhgaaGreatDoor
/-
  The examples that the statements ask first, plain.
-/
namespace Go.Proofs.YtmmcoedgoekhgaaGreatDoor
set_option maxRecDepth 20000
open Go.RowKit S
set_option linter.unusedVariables false
set_option linter.unusedSimpArgs false
end Go.Proofs.YtmmcoedgoekhgaaGreatDoor
/-
  The statements' first (printed by gen_first.py).
-/
namespace Go.Proofs.YtmmcoedgoekhgaaGreatDoor
set_option maxRecDepth 20000
open Go.RowKit S
set_option linter.unusedVariables false
set_option linter.unusedSimpArgs false
end Go.Proofs.YtmmcoedgoekhgaaGreatDoor
/-
  A shelf of one slot, plain.
-/
namespace Go.Proofs.YtmmcoedgoekhgaaGreatDoor
set_option maxRecDepth 20000
open Go.RowKit S
set_option linter.unusedVariables false
set_option linter.unusedSimpArgs false
end Go.Proofs.YtmmcoedgoekhgaaGreatDoor
/-
  Rows of slots and of hashes, grown by append.
-/
namespace Go.Proofs.YtmmcoedgoekhgaaGreatDoor
set_option maxRecDepth 20000
open Go.RowKit S
set_option linter.unusedVariables false
set_option linter.unusedSimpArgs false
def cellsH (l : List (Nat → UInt8)) : List Value := l.flatMap fun s => (tabv (bv s) 32).toList
theorem cellsH_cons (s : Nat → UInt8) (l : List (Nat → UInt8)) : cellsH (s :: l) = (tabv (bv s) 32).toList ++ cellsH l := by simp [cellsH]
theorem cellsH_get : ∀ (l : List (Nat → UInt8)) (k : Nat) (s : Nat → UInt8) (hk : l[k]? = some s) (j : Nat), j < 32 → (cellsH l)[k * 32 + j]? = some (bv s j)
  | [], k, s, hk, j, hj => by simp at hk
  | x :: l, 0, s, hk, j, hj => by
    simp only [List.getElem?_cons_zero, Option.some.injEq] at hk
    subst hk
    rw [cellsH_cons, List.getElem?_append_left (by rw [tabv_len]; omega), Array.getElem?_toList, Nat.zero_mul, Nat.zero_add, tabv_get _ _ _ hj]
  | x :: l, k + 1, s, hk, j, hj => by
    simp only [List.getElem?_cons_succ] at hk
    rw [cellsH_cons, List.getElem?_append_right (by rw [tabv_len]; omega), tabv_len, show (k + 1) * 32 + j - 32 = k * 32 + j by omega]
    exact cellsH_get l k s hk j hj
def OwnH (B : Nat) (w : World) (v : Value) (l : List (Nat → UInt8)) : Prop := w.ownsRow B 23 32 v l.length (cellsH l)
theorem OwnH.nil (B : Nat) (w : World) : OwnH B w (.slice none 0 0) [] := World.ownsRow_nil w B _ _
theorem OwnH.lt {B : Nat} {w : World} {v : Value} {l : List (Nat → UInt8)} (h : OwnH B w v l) : ∀ k, v.ownBlock = some k → B ≤ k ∧ k < w.heap.size := World.ownsRow.lt h
theorem OwnH.same {B : Nat} {w w' : World} {v : Value} {l : List (Nat → UInt8)} (h : OwnH B w v l) (e : ∀ k, v.ownBlock = some k → w'.heap[k]? = w.heap[k]?) : OwnH B w' v l := by
  refine ⟨h.1, h.2.imp id fun ⟨g, cap, cur, h1, h2, h3, h4⟩ => ⟨g, cap, cur, h1, h2, ?_, h4⟩⟩
  rw [e g (by rw [h1]; rfl), h3]
theorem OwnH.below {B B' : Nat} {w w' : World} {v : Value} {l : List (Nat → UInt8)} (h : OwnH B w v l) (hb : Below B' w w') (hB : w.heap.size ≤ B') : OwnH B w' v l := h.same fun k hk => hb.block k (Nat.lt_of_lt_of_le (h.lt k hk).2 hB)
/-- Hashes behind a slice's address. -/
def Hashes (w : World) (ad : Option Addr) (l : List (Nat → UInt8)) : Prop := l = [] ∨ ∃ b o, ad = some ⟨b, o, none⟩ ∧ b < w.heap.size ∧ ∀ i s, l[i]? = some s → At w b (o + i * 32) (bv s) 32
theorem Hashes.get {w : World} {ad : Option Addr} {l : List (Nat → UInt8)} (h : Hashes w ad l) (k : Nat) (s : Nat → UInt8) (hk : l[k]? = some s) : ∃ b o, ad = some ⟨b, o, none⟩ ∧ b < w.heap.size ∧ At w b (o + k * 32) (bv s) 32 := by
  rcases h with rfl | ⟨b, o, h1, h2, h3⟩
  · simp at hk
  · exact ⟨b, o, h1, h2, h3 k s hk⟩
theorem Hashes.below {w w' : World} {ad : Option Addr} {l : List (Nat → UInt8)} (h : Hashes w ad l) (hb : Below w.heap.size w w') : Hashes w' ad l := by
  rcases h with rfl | ⟨b, o, h1, h2, h3⟩
  · exact .inl rfl
  · exact .inr ⟨b, o, h1, Nat.lt_of_lt_of_le h2 hb.size, fun i s hs => (h3 i s hs).below hb h2⟩
theorem OwnH.slots {B : Nat} {w : World} {v : Value} {l : List (Nat → UInt8)} (h : OwnH B w v l) : ∃ ad cap, v = .slice ad l.length cap ∧ Hashes w ad l := by
  obtain ⟨hl, ⟨rfl, hn⟩ | ⟨g, cap, cur, rfl, hb, hg, h1, h2, h3, h4⟩⟩ := h
  · have : l = [] := List.length_eq_zero_iff.1 hn
    subst this
    exact ⟨none, 0, rfl, .inl rfl⟩
  · have hlt : g < w.heap.size := by
      rcases Nat.lt_or_ge g w.heap.size with h | h
      · exact h
      · rw [Array.getElem?_eq_none h] at hg; cases hg
    refine ⟨some ⟨g, 0, none⟩, cap, rfl, .inr ⟨g, 0, rfl, hlt, fun i s hs j hj => ?_⟩⟩
    rw [cell_of_row w g _ cur _ (0, 0) hg]
    have hi : i < l.length := (List.getElem?_eq_some_iff.1 hs).1
    have e := cellsH_get l i s hs j hj
    rw [← h4, List.getElem?_take] at e
    rw [if_pos (by omega), Array.getElem?_toList] at e
    rw [show 0 + i * 32 + j = i * 32 + j by omega]
    exact e
end Go.Proofs.YtmmcoedgoekhgaaGreatDoor
/-
  One more slot, one more hash, as the walk meets it.
-/
namespace Go.Proofs.YtmmcoedgoekhgaaGreatDoor
set_option maxRecDepth 20000
open Go.RowKit S
set_option linter.unusedVariables false
set_option linter.unusedSimpArgs false
-- stands in another text: grown_all
-- left out in this seat: appH_step
end Go.Proofs.YtmmcoedgoekhgaaGreatDoor
/-
  The statements' own helpers: same, lend, kept.
-/
namespace Go.Proofs.YtmmcoedgoekhgaaGreatDoor
set_option maxRecDepth 20000
open Go.RowKit S
set_option linter.unusedVariables false
set_option linter.unusedSimpArgs false
-- left out in this seat: same_any
def mark : Slot := ⟨-7, fun _ => 0, false⟩
theorem run_app_allH (w : World) (ad : Option Addr) (cap : Nat) (l : List Slot) (hS : Slots w ad l) (hz : l.length * 48 ≤ 140737488355328) :
    ∃ v' w', (Builtin.append_ #[30, 30] 30 #[.slice none 0 0, .slice ad l.length cap]).run Tryz.prog w = .ok v' w' ∧ OwnS w.heap.size w' v' l ∧ Below w.heap.size w w' := by
  obtain ⟨i, h1, h2, h3, h4⟩ := infoPH
  cases ad with
  | none =>
    have hl : l = [] := by
      rcases hS with rfl | ⟨b, o, h, _⟩
      · rfl
      · cases h
    subst hl
    refine ⟨.slice none 0 0, w, ?_, OwnS.nil _ _, Below.refl _ _⟩
    simp [Builtin.append_, run_underlying Tryz.underlying30, sizeOf, typeInfo, h1, Builtin.lenOf, Builtin.firstCells, storeCells, loadCells, loadCellsFrom]
  | some a =>
    obtain ⟨v', w', e1, e2, e3, _⟩ := run_append_own (P := Tryz.prog) w w.heap.size 30 30 106 i _ 34 48 Tryz.underlying30 h1 h2 h3 h4 (by rfl) (by omega) (.slice none 0 0) 0 [] (World.ownsRow_nil w _ _ _) a l.length cap (cellsS l) (cellsS_length l)
      (fun j u hj => by
        have hjl : j < l.length * 34 := by have := (List.getElem?_eq_some_iff.1 hj).1; rw [cellsS_length] at this; exact this
        rcases hS with rfl | ⟨b, o, ha, _, h⟩
        · simp at hjl
        · cases ha
          have hk : j / 34 < l.length := by omega
          have hs : l[j / 34]? = some l[j / 34] := List.getElem?_eq_getElem hk
          have hc := h (j / 34) _ hs (j % 34) (by omega)
          have hg := cellsS_get l (j / 34) _ hs (j % 34) (by omega)
          rw [show j / 34 * 34 + j % 34 = j by omega, hj] at hg
          have hadd : (⟨b, o, none⟩ : Addr).add j = ⟨b, o + j, none⟩ := by unfold Addr.add; split <;> simp_all
          rw [hadd, hg, ← hc, show o + j / 34 * 34 + j % 34 = o + j by omega])
      (oneCell_S _) (by unfold maxLen; omega) (by omega) (Nat.le_refl _)
    refine ⟨v', w', e1, ?_, ⟨e3.os, e3.tape, e3.output, e3.size, fun k hk => e3.block k hk (by simp [Value.ownBlock])⟩⟩
    unfold OwnS
    rw [Nat.zero_add, List.nil_append] at e2
    exact e2
-- left out in this seat: lend_any
-- stands in another text: Lent.below
-- stands in another text: Lent.form
-- left out in this seat: kept_any
end Go.Proofs.YtmmcoedgoekhgaaGreatDoor
