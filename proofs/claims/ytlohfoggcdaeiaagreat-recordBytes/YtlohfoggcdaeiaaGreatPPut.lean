import Derived.Test.YtlohfoggcdaeiaaGreatPCode
import Derived.Laws.MakeOwn
/-
  The code's shelf: with (a new row of 49 slots).
-/
namespace Go.Proofs.YtlohfoggcdaeiaaGreat
set_option maxRecDepth 20000
open Go.RowKit S
set_option linter.unusedVariables false
set_option linter.unusedSimpArgs false
def rowF (F : Nat → Slot) : Nat → Value := fun i => (F (i / 34)).v (i % 34)
def updS (F : Nat → Slot) (k : Nat) (s : Slot) : Nat → Slot := fun j => if j = k then s else F j
theorem rowF_splice (F : Nat → Slot) (k : Nat) (s : Slot) (i : Nat) : splice (rowF F) (k * 34) s.v 34 i = rowF (updS F k s) i := by
  unfold splice rowF updS
  by_cases h : k * 34 ≤ i ∧ i < k * 34 + 34
  · rw [if_pos h, if_pos (show i / 34 = k by omega), show i - k * 34 = i % 34 by omega]
  · rw [if_neg h, if_neg (show ¬ i / 34 = k by omega)]
theorem made_zero : madeCells (Value.agg (tabv Slot.zero.v 34)).cells 1666 = tabv (rowF fun _ => Slot.zero) 1666 := by
  refine tabv_ext _ _ _ (size_madeCells _ _) fun i hi => ?_
  have e : (Value.agg (tabv Slot.zero.v 34)).cells = tabv Slot.zero.v 34 := rfl
  unfold madeCells rowF
  rw [e, tabv_size, Array.getElem?_map, Array.getElem?_range, if_pos hi, Option.map_some, getElem!_def, tabv_get _ _ _ (by omega)]
theorem cells_row (F : Nat → Slot) (n : Nat) : cellsS ((List.range n).map F) = (tabv (rowF F) (n * 34)).toList := by
  apply List.ext_getElem?
  intro i
  have e : (tabv (rowF F) (n * 34)).toList[i]? = (tabv (rowF F) (n * 34))[i]? := Array.getElem?_toList ..
  rw [e]
  by_cases hi : i < n * 34
  · rw [tabv_get _ _ _ hi]
    have hk : i / 34 < n := by omega
    have h := cellsS_get ((List.range n).map F) (i / 34) (F (i / 34)) (by rw [List.getElem?_map, List.getElem?_range hk]; rfl) (i % 34) (by omega)
    rw [show i / 34 * 34 + i % 34 = i by omega] at h
    exact h
  · rw [List.getElem?_eq_none (by rw [cellsS_length, List.length_map, List.length_range]; omega), tabv_none _ _ _ (by omega)]
def upF (l : List Slot) (j : Nat) : Nat → Slot := fun i => if i < j then atA l i else Slot.zero
theorem upF_zero (l : List Slot) : upF l 0 = fun _ => Slot.zero := by funext i; unfold upF; rw [if_neg (by omega)]
theorem upF_next (l : List Slot) (j : Nat) : updS (upF l j) j (atA l j) = upF l (j + 1) := by
  funext i
  unfold updS upF
  by_cases h : i = j
  · subst h; rw [if_pos rfl, if_pos (by omega)]
  · rw [if_neg h]
    by_cases h2 : i < j
    · rw [if_pos h2, if_pos (by omega)]
    · rw [if_neg h2, if_neg (by omega)]
theorem rowF_congr {F G : Nat → Slot} (n : Nat) (h : ∀ j, j < n → F j = G j) (i : Nat) (hi : i < n * 34) : rowF F i = rowF G i := by
  unfold rowF
  rw [h _ (by omega)]
theorem own_row {w : World} {g n B : Nat} {F : Nat → Slot} (h : Has w g 49 (rowF F) (n * 34)) (hB : B ≤ g) (hn : n ≤ maxLen) : OwnS B w (.slice (some ⟨g, 0, none⟩) n n) ((List.range n).map F) := by
  unfold OwnS
  rw [List.length_map, List.length_range]
  refine ⟨by rw [cellsS_length, List.length_map, List.length_range], .inr ⟨g, n, _, rfl, hB, h, Nat.le_refl _, hn, tabv_size _ _, ?_⟩⟩
  rw [cells_row]
  exact List.take_of_length_le (by rw [tabv_len]; omega)
theorem run_make49 (w : World) : (Instr.makeSlice 29 (.int .i64 49) (.int .i64 49)).run Tryz.prog w = .ok (.slice (some ⟨w.heap.size, 0, none⟩) 49 49) (w.alloc (.cells (tabv (rowF fun _ => Slot.zero) 1666) 49)) := by
  obtain ⟨i, h1, h2, h3, h4⟩ := infoP
  have h := run_make (P := Tryz.prog) w 29 49 i _ Tryz.underlying29 h1 h2 .i64 .i64 49 49 (by omega) (by omega) (by rw [h4]; omega) (by omega)
  rw [h, h3, ← made_zero]
  rfl
set_option maxRecDepth 100000 in
set_option maxHeartbeats 1000000 in
theorem with_any (ad : Option Addr) (n cap : Nat) (l : List Slot) (hn : l.length = n) (k : Nat) (hk : k < 49) (s : Slot) (w : World) (hS : Slots w ad l) : Calls Tryz.prog 170 #[.slice ad n cap, .int .i64 (k : Int), .agg (tabv s.v 34)] w fun e w' => (∃ g, e = .returned (.slice (some ⟨g, 0, none⟩) 49 49) ∧ w.heap.size ≤ g ∧ Has w' g 49 (rowF (updS (atA l) k s)) 1666) ∧ Below w.heap.size w w' := by
  obtain ⟨w3, hW⟩ : ∃ w3, w.alloc (.cells (tabv s.v 34) 49) = w3 := ⟨_, rfl⟩
  have g0 : Has w3 w.heap.size 49 s.v 34 := by rw [← hW]; exact Has.new w 49 s.v 34 _ rfl
  have gb : Below w.heap.size w w3 := by rw [← hW]; exact (Below.refl w.heap.size w).alloc (Nat.le_refl _) _
  have hz : w3.heap.size = w.heap.size + 1 := by rw [← hW]; simp
  obtain ⟨G, hGG⟩ : ∃ G, w.heap.size + 1 = G := ⟨_, rfl⟩
  rw [hGG] at hz
  obtain ⟨w4, hW4⟩ : ∃ w4, w3.alloc (.cells (tabv (rowF fun _ => Slot.zero) 1666) 49) = w4 := ⟨_, rfl⟩
  have g1 : Has w4 G 49 (rowF fun _ => Slot.zero) 1666 := by rw [← hW4, ← hz]; exact Has.new w3 49 _ 1666 _ rfl
  have gb4 : Below w.heap.size w w4 := by rw [← hW4]; exact gb.alloc gb.size _
  have g04 : Has w4 w.heap.size 49 s.v 34 := by rw [← hW4]; exact g0.old _
  have hmk : (Instr.makeSlice 29 (.int .i64 49) (.int .i64 49)).run Tryz.prog w3 = .ok (.slice (some ⟨G, 0, none⟩) 49 49) w4 := by rw [run_make49, hz, hW4]
  clear g0 gb hW4
  have hS4 := hS.below gb4
  go_enter Tryz.func170, Tryz.ntmps170
  go_wp2
  rw [← upF_zero l] at g1
  go_loopw [10] (fun i wr => ∃ j : Nat, j ≤ 49 ∧ i = .int .i64 j ∧ Has wr G 49 (rowF (upF l j)) 1666 ∧ Has wr w.heap.size 49 s.v 34 ∧ Below w.heap.size w wr) (fun i _ => 49 - (intOf i).toNat)
  case atStart => exact ⟨0, by omega, rfl, g1, g04, gb4⟩
  case round =>
    clear g1 g04 gb4 hmk hW hz hS4
    obtain ⟨j, hj, rfl, g1, g0, gb⟩ := hrel
    have hSr := hS.below gb
    by_cases hlt : j < 49
    · have hd : decide ((j : Int) < 49) = true := by simp; omega
      have hk0 : (0 : Int) ≤ (j : Int) := by omega
      have hk1 : (j : Int) < 49 := by omega
      go_wp2_with fail
      refine (at_any ad n cap l hn j _ hSr).mono ?_
      rintro e w1 ⟨rfl, hb1⟩
      have k1 := g1.below hb1 g1.lt
      have k0 := g0.below hb1 g0.lt
      have kb := gb.trans (hb1.mono gb.size)
      clear g1 g0 gb hSr hb1
      go_wp2_with (refine wpList_store_part rfl 49 _ _ rfl rfl G (j * 34) (atA l j).v 34 rfl rfl 49 _ 1666 k1 (by omega) infoS (fun i _ => oneVH _ i) (rowF (upF l (j + 1))) (fun i hi => by rw [rowF_splice, upF_next]) ?_)
      go_roundw
      case rel => exact ⟨j + 1, by omega, by go_num, k1.row _ _ rfl, k0.row_other _ _ (by omega), below_setRow kb (by omega) _⟩
      case measure => simp [intOf]; omega
    · have hj8 : j = 49 := by omega
      subst hj8
      have hd : decide (((49 : Nat) : Int) < 49) = false := by decide
      have hk0 : (0 : Int) ≤ (k : Int) := by omega
      have hk1 : (k : Int) < 49 := by omega
      have ef : ∀ i, i < 1666 → splice (rowF (upF l 49)) (k * 34) s.v 34 i = rowF (updS (atA l) k s) i := fun i hi => by
        rw [rowF_splice]
        exact rowF_congr 49 (fun j hj => by unfold updS upF; rw [if_pos hj]) i hi
      go_wp2_with (first | refine wpList_load_part rfl 49 _ rfl w.heap.size 0 rfl 49 _ 34 34 _ g0 (by omega) Tryz.underlying49 rfl infoS s.v (fun i hi => by rw [Nat.zero_add]) ?_ | refine wpList_store_part rfl 49 _ _ rfl rfl G (k * 34) s.v 34 rfl rfl 49 _ 1666 g1 (by omega) infoS (fun i _ => oneVH _ i) (rowF (updS (atA l) k s)) ef ?_)
      go_ret
      exact ⟨⟨G, rfl, by omega, g1.row _ _ rfl⟩, below_setRow gb (by omega) _⟩
end Go.Proofs.YtlohfoggcdaeiaaGreat
/-
  The code's shelf: Put.
-/
namespace Go.Proofs.YtlohfoggcdaeiaaGreat
set_option maxRecDepth 20000
open Go.RowKit S
set_option linter.unusedVariables false
set_option linter.unusedSimpArgs false
set_option maxRecDepth 100000 in
theorem builtS (x : Int) (h : Nat → UInt8) (b : Bool) : Tryz.prog.built 49 [(0, .int .i64 x), (1, .agg (tabv (bv h) 32)), (2, .bool b)] = some (tabv (Slot.v ⟨x, h, b⟩) 34) := by kernel_rfl
set_option maxRecDepth 100000 in
theorem builtI (x : Int) : Tryz.prog.built 49 [(0, .int .i64 x)] = some (tabv (Slot.v ⟨x, fun _ => 0, false⟩) 34) := by kernel_rfl
section
variable {ops : Array Oper} {rest : List Oper} {o : Oper} {a : Act} {w : World} {Q : Exit → Act → World → Prop}
theorem wpList_buildS (hgd : o.guard = none) (p0 p1 : Operand) (b : Bool) (ho : o.op = .build 49 #[(0, p0), (1, p1), (2, .const (.bool b))]) (x : Int) (h : Nat → UInt8) (h0 : a.eval p0 = .int .i64 x) (h1 : a.eval p1 = .agg (tabv (bv h) 32))
    (hk : wpList Tryz.prog ops Q rest (a.put o.dst (.agg (tabv (Slot.v ⟨x, h, b⟩) 34))) w) : wpList Tryz.prog ops Q (o :: rest) a w :=
  wpList_plain hgd fun K hK => by
    have e : ((#[(0, p0), (1, p1), (2, .const (.bool b))] : Array (Nat × Operand)).map fun (i, y) => (i, a.eval y)).toList = [(0, .int .i64 x), (1, .agg (tabv (bv h) 32)), (2, .bool b)] := by
      rw [Array.toList_map]
      show [(0, a.eval p0), (1, a.eval p1), (2, a.eval (.const (.bool b)))] = _
      rw [h0, h1]
      rfl
    refine wp_build _ _ ho (by rw [e, builtS]; rfl) ?_
    rw [e, builtS]
    exact hK _ _ hk
theorem wpList_buildI (hgd : o.guard = none) (x : Int) (ho : o.op = .build 49 #[(0, .const (.int .i64 x))])
    (hk : wpList Tryz.prog ops Q rest (a.put o.dst (.agg (tabv (Slot.v ⟨x, fun _ => 0, false⟩) 34))) w) : wpList Tryz.prog ops Q (o :: rest) a w :=
  wpList_plain hgd fun K hK => by
    have e : ((#[(0, .const (.int .i64 x))] : Array (Nat × Operand)).map fun (i, y) => (i, a.eval y)).toList = [(0, .int .i64 x)] := by simp [Act.eval]
    refine wp_build _ _ ho (by rw [e, builtI]; rfl) ?_
    rw [e, builtI]
    exact hK _ _ hk
end
set_option maxRecDepth 100000 in
set_option maxHeartbeats 1000000 in
theorem put_any [Inhabited S.Tbl] (ad : Option Addr) (n cap : Nat) (l : List Slot) (hn : l.length = n) (x : Int) (h : Nat → UInt8) (w : World) (hG : Glob num w) (hS : Slots w ad l) : Calls Tryz.prog 166 #[.slice ad n cap, .int .i64 x, .agg (tabv (bv h) 32)] w fun e w' => (∃ v, e = .returned (.tuple #[v, .int .i64 (putA l x h).2]) ∧ OwnS w.heap.size w' v (putA l x h).1) ∧ Below w.heap.size w w' := by
  obtain ⟨w3, hW⟩ : ∃ w3, w.alloc (.cells (tabv (bv h) 32) 25) = w3 := ⟨_, rfl⟩
  have g0 : Has w3 w.heap.size 25 (bv h) 32 := by rw [← hW]; exact Has.new w 25 (bv h) 32 _ rfl
  have gb : Below w.heap.size w w3 := by rw [← hW]; exact (Below.refl w.heap.size w).alloc (Nat.le_refl _) _
  by_cases hl : 49 < n
  · have hd : decide ((49 : Int) < (n : Int)) = true := by simp; omega
    have e : putA l x h = ([], 1) := by unfold putA; rw [if_pos (by omega)]
    rw [e]
    go_enter Tryz.func166, Tryz.ntmps166
    go_wp2
    go_ret2
    exact ⟨⟨_, rfl, OwnS.nil _ _⟩, gb⟩
  have hd : decide ((49 : Int) < (n : Int)) = false := by simp; omega
  cases hx : isN x with
  | false =>
    have e : putA l x h = ([], 90) := by unfold putA; rw [if_neg (by omega), if_pos hx]
    have e2 : levelA x = (0, 90) := by unfold levelA; rw [if_neg (by rw [hx]; decide)]
    rw [e]
    have E2 := hide e2
    clear hx e e2
    go_enter Tryz.func166, Tryz.ntmps166
    go_wp2_with fail
    refine (sLevel_any x _).mono ?_
    rw [E2.out]
    rintro e w1 ⟨rfl, hb1⟩
    go_wp2
    go_ret2
    exact ⟨⟨_, rfl, OwnS.nil _ _⟩, gb.trans (hb1.mono gb.size)⟩
  | true =>
    have e2 : levelA x = ((lvl (place x.toNat) 48 : Int), 0) := by unfold levelA; rw [if_pos hx]
    have e : putA l x h = if (List.range (lvl (place x.toNat) 48)).all (okAt l h x) = true then (withA l (lvl (place x.toNat) 48) ⟨x, h, true⟩, 0) else ([], 100) := by
      unfold putA; rw [if_neg (by omega), if_neg (by rw [hx]; decide)]
    have hL := lvl_le 48 (place x.toNat)
    obtain ⟨L, hLL⟩ : ∃ L, lvl (place x.toNat) 48 = L := ⟨_, rfl⟩
    rw [hLL] at e e2 hL
    obtain ⟨A, hA⟩ : ∃ A, putA l x h = A := ⟨_, rfl⟩
    rw [hA] at e ⊢
    have E := hide e
    have E2 := hide e2
    clear hx e e2 hLL hA
    go_enter Tryz.func166, Tryz.ntmps166
    go_wp2_with fail
    refine (sLevel_any x _).mono ?_
    rw [E2.out]
    rintro e w1 ⟨rfl, hb1⟩
    have k0 := g0.below hb1 g0.lt
    have kb := gb.trans (hb1.mono gb.size)
    clear g0 gb hb1 hW
    obtain ⟨w2, hW2⟩ : ∃ w2, w1.alloc (.cells (tabv Slot.zero.v 34) 49) = w2 := ⟨_, rfl⟩
    obtain ⟨G, hGG⟩ : ∃ G, w1.heap.size = G := ⟨_, rfl⟩
    have q1 : Has w2 G 49 Slot.zero.v 34 := by rw [← hW2, ← hGG]; exact Has.new w1 49 Slot.zero.v 34 _ rfl
    have qb : Below w.heap.size w w2 := by rw [← hW2]; exact kb.alloc kb.size _
    have hGe : w.heap.size ≤ G := by rw [← hGG]; exact kb.size
    have m1 := q1.row _ (Slot.v ⟨x, h, true⟩) rfl
    have mb := below_setRow qb hGe (tabv (Slot.v ⟨x, h, true⟩) 34)
    rw [← zero34] at hW2
    clear qb kb
    go_wp2_with (first | refine wpList_load_part rfl 25 _ rfl w.heap.size 0 rfl 25 _ 32 32 _ k0 (by omega) Tryz.underlying25 rfl info26 (bv h) (fun i hi => by rw [Nat.zero_add]) ?_ | refine wpList_buildS rfl _ _ true rfl x h rfl rfl ?_ | refine wpList_storeS rfl _ _ rfl rfl G ⟨x, h, true⟩ rfl rfl _ q1 ?_)
    generalize World.setRow w2 _ _ = w4 at m1 mb ⊢
    clear q1 hW2 k0
    go_loopw [28] (fun i wr => ∃ j : Nat, j ≤ L ∧ i = .int .i64 j ∧ Hid ((List.range j).all (okAt l h x) = true) ∧ Has wr G 49 (Slot.v ⟨x, h, true⟩) 34 ∧ Below w.heap.size w wr) (fun i _ => L - (intOf i).toNat)
    case atStart => exact ⟨0, by omega, rfl, hide rfl, m1, mb⟩
    case round =>
      clear m1 mb
      obtain ⟨j, hj, rfl, HJ, g1, gb⟩ := hrel
      have hSr := hS.below gb
      by_cases hlt : j < L
      · have hd : decide ((j : Int) < (L : Int)) = true := by simp; omega
        have hk0 : (0 : Int) ≤ (j : Int) := by omega
        go_wp2_with fail
        refine (at_any ad n cap l hn j _ hSr).mono ?_
        rintro e w5 ⟨rfl, hb5⟩
        have k1 := g1.below hb5 g1.lt
        have kb := gb.trans (hb5.mono gb.size)
        clear g1 gb hSr hb5
        obtain ⟨s, hs⟩ : ∃ s, atA l j = s := ⟨_, rfl⟩
        have HS := hide hs
        rw [hs]
        clear hs
        obtain ⟨w6, hW6⟩ : ∃ w6, w5.alloc (.cells (tabv Slot.zero.v 34) 49) = w6 := ⟨_, rfl⟩
        obtain ⟨G2, hG2⟩ : ∃ G2, w5.heap.size = G2 := ⟨_, rfl⟩
        have q1 : Has w6 G2 49 Slot.zero.v 34 := by rw [← hW6, ← hG2]; exact Has.new w5 49 Slot.zero.v 34 _ rfl
        have qb : Below w.heap.size w w6 := by rw [← hW6]; exact kb.alloc kb.size _
        have q0 : Has w6 G 49 (Slot.v ⟨x, h, true⟩) 34 := by rw [← hW6]; exact k1.old _
        have hne : G ≠ G2 := by rw [← hG2]; exact Nat.ne_of_lt k1.lt
        have hge2 : w.heap.size ≤ G2 := by rw [← hG2]; exact kb.size
        rw [← zero34] at hW6
        have r0 := q0.row_other G2 (tabv s.v 34) hne
        have r1 := q1.row _ s.v rfl
        have rb := below_setRow qb hge2 (tabv s.v 34)
        have rG : Glob num (w6.setRow G2 (tabv s.v 34)) := hG.up rb
        clear k1 kb qb q0
        have c33 : (w6.setRow G2 (tabv s.v 34)).cell? ⟨G2, 33, none⟩ = some (.bool s.full) := r1.cell 33 (by omega)
        cases hf : s.full with
        | false =>
          rw [hf] at c33
          have hok : okAt l h x j = true := by unfold okAt; rw [HS.out, hf]; rfl
          have HO := hide hok
          clear hf hok
          go_wp2_with (refine wpList_storeS rfl _ _ rfl rfl G2 s rfl rfl _ q1 ?_)
          go_roundw
          case rel => exact ⟨j + 1, by omega, by go_num, hide (by rw [List.range_succ, List.all_append, HJ.out]; simp [HO.out]), r0, rb⟩
          case measure => simp [intOf]; omega
        | true =>
          rw [hf] at c33
          have hok : okAt l h x j = agreeB h x s := by unfold okAt; rw [HS.out, hf]; rfl
          have HO := hide hok
          clear hf hok
          go_wp2_with (first | refine wpList_storeS rfl _ _ rfl rfl G2 s rfl rfl _ q1 ?_ | refine wpList_load_want (by rfl) 49 _ rfl G 0 rfl 49 _ 34 34 _ r0 (by omega) Tryz.underlying49 rfl infoS (Slot.v ⟨x, h, true⟩) (fun i hi => by rw [Nat.zero_add]) ?_ | refine wpList_load_want (by rfl) 49 _ rfl G2 0 rfl 49 _ 34 34 _ r1 (by omega) Tryz.underlying49 rfl infoS s.v (fun i hi => by rw [Nat.zero_add]) ?_)
          refine (agrees_any ⟨x, h, true⟩ s _ rG).mono ?_
          rintro e w7 ⟨rfl, hb7⟩
          have t0 := r0.below hb7 r0.lt
          have tb := rb.trans (hb7.mono rb.size)
          clear r0 r1 rb rG hb7 q1 c33
          simp only
          cases hg : agreeB h x s with
          | true =>
            have hok2 := hide (HO.out.trans hg)
            clear hg HO
            go_wp2
            go_roundw
            case rel => exact ⟨j + 1, by omega, by go_num, hide (by rw [List.range_succ, List.all_append, HJ.out]; simp [hok2.out]), t0, tb⟩
            case measure => simp [intOf]; omega
          | false =>
            have hok2 := hide (HO.out.trans hg)
            clear hg HO
            go_wp2
            go_ret2
            have hA : A = ([], 100) := by
              rw [E.out, if_neg]
              intro hall
              rw [List.all_eq_true] at hall
              rw [hall j (List.mem_range.2 hlt)] at hok2
              exact absurd hok2.out (by decide)
            rw [hA]
            exact ⟨⟨_, rfl, OwnS.nil _ _⟩, tb⟩
      · have hjL : j = L := by omega
        subst hjL
        have hd : decide ((j : Int) < (j : Int)) = false := by simp
        have hA : A = (withA l j ⟨x, h, true⟩, 0) := by rw [E.out, if_pos HJ.out]
        clear E
        subst hA
        go_wp2_with (refine wpList_load_part rfl 49 _ rfl G 0 rfl 49 _ 34 34 _ g1 (by omega) Tryz.underlying49 rfl infoS (Slot.v ⟨x, h, true⟩) (fun i hi => by rw [Nat.zero_add]) ?_)
        refine (with_any ad n cap l hn j (by omega) ⟨x, h, true⟩ _ hSr).mono ?_
        rintro e w7 ⟨⟨g, rfl, hg, hr⟩, hb7⟩
        have tb := gb.trans (hb7.mono gb.size)
        have ho : OwnS w.heap.size w7 (.slice (some ⟨g, 0, none⟩) 49 49) (withA l j ⟨x, h, true⟩) := own_row hr (Nat.le_trans gb.size hg) (by decide)
        clear hr hb7 g1 gb hSr
        go_wp2
        go_ret2
        exact ⟨⟨_, rfl, ho⟩, tb⟩
end Go.Proofs.YtlohfoggcdaeiaaGreat
