import Derived.Test.YtmmcoedgoekhgaaGreatDoorUValid
import Derived.Test.YtmmcoedgoekhgaaGreatDoorPBase
import Derived.Laws.MakeOwn
import Derived.BigQuiet
import Derived.Laws.AppendOwn
import Derived.Test.YtmmcoedgoekhgaaGreatDoorLast
/-
  SHELVES, PLAIN: what Put and Get answer.
-/
namespace Go.Proofs.YtmmcoedgoekhgaaGreatDoor
set_option maxRecDepth 20000
open Go.RowKit S
set_option linter.unusedVariables false
set_option linter.unusedSimpArgs false
theorem oneVH (s : Slot) (i : Nat) : (s.v i).oneCell' = true := by
  unfold Slot.v
  split
  · rfl
  · split <;> rfl
section
variable {ops : Array Oper} {rest : List Oper} {o : Oper} {a : Act} {w : World} {Q : Exit → Act → World → Prop}
theorem wpList_storeS (hgd : o.guard = none) (x y : Operand) (ho : o.op = .store 106 x y) (hd : o.dst = none) (g : Nat) (s : Slot) (hx : a.eval x = .pointer (some ⟨g, 0, none⟩)) (hy : a.eval y = .agg (tabv s.v 34)) (f : Nat → Value) (hg : Has w g 106 f 34)
    (hk : wpList Tryz.prog ops Q rest a (w.setRow g (tabv s.v 34))) : wpList Tryz.prog ops Q (o :: rest) a w :=
  wpList_store_part hgd 106 x y ho hd g 0 s.v 34 hx hy 106 f 34 hg (by omega) infoS (fun i _ => oneVH s i) s.v (fun i hi => by unfold splice; rw [if_pos (by omega), Nat.sub_zero]) hk
-- stands in another text: wpList_storeH
end
/-- What stands in a place. -/
def atA (l : List Slot) (j : Nat) : Slot := match l[j]? with
  | some s => if s.full = true then s else Slot.zero
  | none => Slot.zero
theorem at_none {l : List Slot} {j : Nat} (h : l.length ≤ j) : atA l j = Slot.zero := by unfold atA; rw [List.getElem?_eq_none h]
theorem at_empty {l : List Slot} {j : Nat} {s : Slot} (h : l[j]? = some s) (hf : s.full = false) : atA l j = Slot.zero := by unfold atA; rw [h]; simp [hf]
theorem at_full {l : List Slot} {j : Nat} {s : Slot} (h : l[j]? = some s) (hf : s.full = true) : atA l j = s := by unfold atA; rw [h]; simp [hf]
def yieldB (s : Slot) (n : Int) : Bool := s.full && decide ((deriveA s.sec s.idx n).2 = 0)
def getK (l : List Slot) (n : Int) : Nat → (Nat → UInt8) × Int
  | 0 => (fun _ => 0, 5)
  | k + 1 => if yieldB (atA l (49 - (k + 1))) n = true then ((deriveA (atA l (49 - (k + 1))).sec (atA l (49 - (k + 1))).idx n).1, 0) else getK l n k
def getA (l : List Slot) (n : Int) : (Nat → UInt8) × Int :=
  if 49 < l.length then (fun _ => 0, 1) else if isN n = false then (fun _ => 0, 90) else getK l n 49
end Go.Proofs.YtmmcoedgoekhgaaGreatDoor
/-
  The code's shelf: at, yields, agrees, with.
-/
namespace Go.Proofs.YtmmcoedgoekhgaaGreatDoor
set_option maxRecDepth 20000
open Go.RowKit S
set_option linter.unusedVariables false
set_option linter.unusedSimpArgs false
set_option maxRecDepth 100000 in
set_option maxHeartbeats 1000000 in
theorem at_any (ad : Option Addr) (n cap : Nat) (l : List Slot) (hn : l.length = n) (k : Nat) (w : World) (hS : Slots w ad l) : Calls Tryz.prog 109 #[.slice ad n cap, .int .i64 (k : Int)] w fun e w' => e = .returned (.agg (tabv (atA l k).v 34)) ∧ Below w.heap.size w w' := by
  obtain ⟨w3, hW⟩ : ∃ w3, w.alloc (.cells (tabv Slot.zero.v 34) 106) = w3 := ⟨_, rfl⟩
  have g0 : Has w3 w.heap.size 106 Slot.zero.v 34 := by rw [← hW]; exact Has.new w 106 Slot.zero.v 34 _ rfl
  have gb : Below w.heap.size w w3 := by rw [← hW]; exact (Below.refl w.heap.size w).alloc (Nat.le_refl _) _
  have hS3 := hS.below gb
  rw [← zero34] at hW
  by_cases hk : k < n
  · obtain ⟨s, hs⟩ : ∃ s, l[k]? = some s := ⟨_, List.getElem?_eq_getElem (by omega)⟩
    obtain ⟨b, o, rfl, hb, hA⟩ := hS3.get k s hs
    have hd : decide ((n : Int) ≤ (k : Int)) = false := by simp; omega
    have hk0 : (0 : Int) ≤ (k : Int) := by omega
    have hk1 : (k : Int) < (n : Int) := by omega
    cases hf : s.full with
    | true =>
      rw [at_full hs hf]
      have c33 : w3.cell? ⟨b, o + k * 34 + 33, none⟩ = some (.bool true) := by rw [hA 33 (by omega), Slot.v_full, hf]
      have HA := hide hA
      clear hA hf hs hS3 hS
      go_enter Tryz.func109, Tryz.ntmps109
      go_wp2_with (first | refine wpW_load_at 106 _ rfl b (o + k * 34) (by rfl) (by rfl) _ 34 _ HA.out Tryz.underlying106 rfl infoS ?_ | refine wpList_storeS rfl _ _ rfl rfl w.heap.size s rfl rfl _ g0 ?_)
      exact bodyPost_ret (results_cell_row rfl _ _ w.heap.size 106 _ (0, 0) _ rfl (g0.row _ _ rfl) Tryz.underlying106 rfl (by rw [tabv_size]; exact infoS)) rfl ⟨rfl, below_setRow gb (Nat.le_refl _) _⟩
    | false =>
      rw [at_empty hs hf]
      have c33 : w3.cell? ⟨b, o + k * 34 + 33, none⟩ = some (.bool false) := by rw [hA 33 (by omega), Slot.v_full, hf]
      clear hA hf hs hS3 hS
      go_enter Tryz.func109, Tryz.ntmps109
      go_wp2_with (refine wpList_storeS rfl _ _ rfl rfl w.heap.size Slot.zero rfl rfl _ g0 ?_)
      exact bodyPost_ret (results_cell_row rfl _ _ w.heap.size 106 _ (0, 0) _ rfl (g0.row _ _ rfl) Tryz.underlying106 rfl (by rw [tabv_size]; exact infoS)) rfl ⟨rfl, below_setRow gb (Nat.le_refl _) _⟩
  · have hd : decide ((n : Int) ≤ (k : Int)) = true := by simp; omega
    rw [at_none (by omega)]
    go_enter Tryz.func109, Tryz.ntmps109
    go_wp2_with (refine wpList_storeS rfl _ _ rfl rfl w.heap.size Slot.zero rfl rfl _ g0 ?_)
    exact bodyPost_ret (results_cell_row rfl _ _ w.heap.size 106 _ (0, 0) _ rfl (g0.row _ _ rfl) Tryz.underlying106 rfl (by rw [tabv_size]; exact infoS)) rfl ⟨rfl, below_setRow gb (Nat.le_refl _) _⟩
set_option maxRecDepth 100000 in
set_option maxHeartbeats 1000000 in
theorem yields_any (s : Slot) (n : Int) (w : World) (hG : Glob num w) : Calls Tryz.prog 134 #[.agg (tabv s.v 34), .int .i64 n] w fun e w' => e = .returned (.tuple #[.agg (tabv (bv (deriveA s.sec s.idx n).1) 32), .int .i64 (deriveA s.sec s.idx n).2]) ∧ Below w.heap.size w w' := by
  obtain ⟨w3, hW⟩ : ∃ w3, (w.alloc (.cells (tabv s.v 34) 106)).alloc (.cells (tabv (fun _ => .int .u8 0) 32) 23) = w3 := ⟨_, rfl⟩
  have g0 : Has w3 w.heap.size 106 s.v 34 := by rw [← hW]; exact (Has.new w 106 s.v 34 _ rfl).old _
  have g1 : Has w3 (w.heap.size + 1) 23 (fun _ => .int .u8 0) 32 := by
    rw [← hW]
    have := Has.new (w.alloc (.cells (tabv s.v 34) 106)) 23 (fun _ => .int .u8 0) 32 _ rfl
    rw [size_alloc] at this
    exact this
  have gb : Below w.heap.size w w3 := by rw [← hW]; exact ((Below.refl w.heap.size w).alloc (Nat.le_refl _) _).alloc (by simp) _
  have hG3 : Glob num w3 := hG.up gb
  have c0 : w3.cell? ⟨w.heap.size, 0, none⟩ = some (.int .i64 s.idx) := g0.cell 0 (by omega)
  rw [zero32] at hW
  obtain ⟨D, hD⟩ : ∃ D, deriveA s.sec s.idx n = D := ⟨_, rfl⟩
  have HD := hide hD
  rw [hD]
  clear hD
  go_enter Tryz.func134, Tryz.ntmps134
  go_wp2_with (refine wpList_load_part rfl 23 _ rfl w.heap.size 1 rfl 106 _ 34 32 _ g0 (by omega) Tryz.underlying23 rfl info26 (bv s.sec) (fun i hi => s.v_sec i hi) ?_)
  refine (sDerive_any num s.sec s.idx n _ hG3).mono ?_
  rw [HD.out]
  rintro e w9 ⟨rfl, hb9⟩
  have k1 := g1.below hb9 g1.lt
  have kb := gb.trans (hb9.mono gb.size)
  clear g0 g1 gb hb9 c0 hW
  go_wp2_with (refine wpList_storeH rfl _ _ rfl rfl (w.heap.size + 1) D.1 rfl rfl _ k1 ?_)
  exact bodyPost_ret (resCT _ (w.heap.size + 1) _ _ D.2 4 5 (k1.row _ (bv D.1) rfl) rfl rfl _ rfl) rfl ⟨rfl, below_setRow kb (by omega) _⟩
end Go.Proofs.YtmmcoedgoekhgaaGreatDoor
/-
  The code's shelf: with (a new row of 49 slots).
-/
namespace Go.Proofs.YtmmcoedgoekhgaaGreatDoor
set_option maxRecDepth 20000
open Go.RowKit S
set_option linter.unusedVariables false
set_option linter.unusedSimpArgs false
end Go.Proofs.YtmmcoedgoekhgaaGreatDoor
/-
  The code's shelf: Put.
-/
namespace Go.Proofs.YtmmcoedgoekhgaaGreatDoor
set_option maxRecDepth 20000
open Go.RowKit S
set_option linter.unusedVariables false
set_option linter.unusedSimpArgs false
section
variable {ops : Array Oper} {rest : List Oper} {o : Oper} {a : Act} {w : World} {Q : Exit → Act → World → Prop}
end
end Go.Proofs.YtmmcoedgoekhgaaGreatDoor
/-
  The code's shelf: Get.
-/
namespace Go.Proofs.YtmmcoedgoekhgaaGreatDoor
set_option maxRecDepth 20000
open Go.RowKit S
set_option linter.unusedVariables false
set_option linter.unusedSimpArgs false
theorem getK_yes {l : List Slot} {n : Int} {j : Nat} (hj : j < 49) (h : yieldB (atA l j) n = true) : getK l n (49 - j) = ((deriveA (atA l j).sec (atA l j).idx n).1, 0) := by
  obtain ⟨k, hk⟩ : ∃ k, 49 - j = k + 1 := ⟨48 - j, by omega⟩
  have e : 49 - (k + 1) = j := by omega
  rw [hk, getK, e, if_pos h]
theorem getK_no {l : List Slot} {n : Int} {j : Nat} (hj : j < 49) (h : yieldB (atA l j) n = false) : getK l n (49 - j) = getK l n (49 - (j + 1)) := by
  obtain ⟨k, hk⟩ : ∃ k, 49 - j = k + 1 := ⟨48 - j, by omega⟩
  have e : 49 - (k + 1) = j := by omega
  rw [hk, getK, e, if_neg (by rw [h]; decide), show 49 - (j + 1) = k by omega]
set_option maxRecDepth 100000 in
set_option maxHeartbeats 1000000 in
theorem get_any (ad : Option Addr) (n cap : Nat) (l : List Slot) (hn : l.length = n) (x : Int) (w : World) (hG : Glob num w) (hS : Slots w ad l) : Calls Tryz.prog 78 #[.slice ad n cap, .int .i64 x] w fun e w' => e = .returned (.tuple #[.agg (tabv (bv (getA l x).1) 32), .int .i64 (getA l x).2]) ∧ Below w.heap.size w w' := by
  obtain ⟨w3, hW⟩ : ∃ w3, w.alloc (.cells (tabv (fun _ => .int .u8 0) 32) 23) = w3 := ⟨_, rfl⟩
  have g0 : Has w3 w.heap.size 23 (fun _ => .int .u8 0) 32 := by rw [← hW]; exact Has.new w 23 (fun _ => .int .u8 0) 32 _ rfl
  have gb : Below w.heap.size w w3 := by rw [← hW]; exact (Below.refl w.heap.size w).alloc (Nat.le_refl _) _
  rw [zero32] at hW
  by_cases hl : 49 < n
  · have hd : decide ((49 : Int) < (n : Int)) = true := by simp; omega
    have e : getA l x = (fun _ => 0, 1) := by unfold getA; rw [if_pos (by omega)]
    rw [e]
    clear e
    go_enter Tryz.func78, Tryz.ntmps78
    go_wp2_with (refine wpList_storeH rfl _ _ rfl rfl w.heap.size (fun _ => 0) rfl rfl _ g0 ?_)
    exact bodyPost_ret (resCT _ w.heap.size _ _ 1 4 5 (g0.row _ (bv (fun _ => 0)) rfl) rfl rfl _ rfl) rfl ⟨rfl, below_setRow gb (Nat.le_refl _) _⟩
  have hd : decide ((49 : Int) < (n : Int)) = false := by simp; omega
  cases hx : isN x with
  | false =>
    have e : getA l x = (fun _ => 0, 90) := by unfold getA; rw [if_neg (by omega), if_pos hx]
    have e2 : levelA x = (0, 90) := by unfold levelA; rw [if_neg (by rw [hx]; decide)]
    rw [e]
    have E2 := hide e2
    clear hx e e2
    go_enter Tryz.func78, Tryz.ntmps78
    go_wp2_with fail
    refine (sLevel_any x _).mono ?_
    rw [E2.out]
    rintro e w1 ⟨rfl, hb1⟩
    have k0 := g0.below hb1 g0.lt
    have kb := gb.trans (hb1.mono gb.size)
    clear g0 gb hb1 hW
    go_wp2_with (refine wpList_storeH rfl _ _ rfl rfl w.heap.size (fun _ => 0) rfl rfl _ k0 ?_)
    exact bodyPost_ret (resCT _ w.heap.size _ _ 90 4 5 (k0.row _ (bv (fun _ => 0)) rfl) rfl rfl _ rfl) rfl ⟨rfl, below_setRow kb (Nat.le_refl _) _⟩
  | true =>
    have e2 : levelA x = ((lvl (place x.toNat) 48 : Int), 0) := by unfold levelA; rw [if_pos hx]
    have e : getA l x = getK l x 49 := by
      unfold getA; rw [if_neg (by omega), if_neg (by rw [hx]; decide)]
    obtain ⟨L, hLL⟩ : ∃ L, lvl (place x.toNat) 48 = L := ⟨_, rfl⟩
    rw [hLL] at e2
    obtain ⟨A, hA⟩ : ∃ A, getA l x = A := ⟨_, rfl⟩
    rw [hA] at e ⊢
    have E := hide e
    have E2 := hide e2
    clear hx e e2 hLL hA
    go_enter Tryz.func78, Tryz.ntmps78
    go_wp2_with fail
    refine (sLevel_any x _).mono ?_
    rw [E2.out]
    rintro e w1 ⟨rfl, hb1⟩
    have k0 := g0.below hb1 g0.lt
    have kb := gb.trans (hb1.mono gb.size)
    clear g0 gb hb1 hW
    go_wp2
    go_loopw [25] (fun i wr => ∃ j : Nat, j ≤ 49 ∧ i = .int .i64 j ∧ Hid (A = getK l x (49 - j)) ∧ Has wr w.heap.size 23 (fun _ => .int .u8 0) 32 ∧ Below w.heap.size w wr) (fun i _ => 49 - (intOf i).toNat)
    case atStart => exact ⟨0, by omega, rfl, E, k0, kb⟩
    case round =>
      clear k0 kb E
      obtain ⟨j, hj, rfl, HJ, g1, gb⟩ := hrel
      have hSr := hS.below gb
      by_cases hlt : j < 49
      · have hd : decide ((j : Int) < 49) = true := by simp; omega
        have hk0 : (0 : Int) ≤ (j : Int) := by omega
        go_wp2_with fail
        refine (at_any ad n cap l hn j _ hSr).mono ?_
        rintro e w5 ⟨rfl, hb5⟩
        have k1 := g1.below hb5 g1.lt
        have kb := gb.trans (hb5.mono gb.size)
        clear g1 gb hSr hb5
        obtain ⟨s, hs⟩ : ∃ s, atA l j = s := ⟨_, rfl⟩
        have HS := hide hs
        rw [hs]
        clear hs
        obtain ⟨w6, hW6⟩ : ∃ w6, w5.alloc (.cells (tabv Slot.zero.v 34) 106) = w6 := ⟨_, rfl⟩
        obtain ⟨G2, hG2⟩ : ∃ G2, w5.heap.size = G2 := ⟨_, rfl⟩
        have q1 : Has w6 G2 106 Slot.zero.v 34 := by rw [← hW6, ← hG2]; exact Has.new w5 106 Slot.zero.v 34 _ rfl
        have qb : Below w.heap.size w w6 := by rw [← hW6]; exact kb.alloc kb.size _
        have q0 : Has w6 w.heap.size 23 (fun _ => .int .u8 0) 32 := by rw [← hW6]; exact k1.old _
        have hne : w.heap.size ≠ G2 := by rw [← hG2]; exact Nat.ne_of_lt k1.lt
        have hge2 : w.heap.size ≤ G2 := by rw [← hG2]; exact kb.size
        rw [← zero34] at hW6
        have r0 := q0.row_other G2 (tabv s.v 34) hne
        have r1 := q1.row _ s.v rfl
        have rb := below_setRow qb hge2 (tabv s.v 34)
        have rG : Glob num (w6.setRow G2 (tabv s.v 34)) := hG.up rb
        clear k1 kb qb q0
        have c33 : (w6.setRow G2 (tabv s.v 34)).cell? ⟨G2, 33, none⟩ = some (.bool s.full) := r1.cell 33 (by omega)
        cases hf : s.full with
        | false =>
          rw [hf] at c33
          have hno : yieldB (atA l j) x = false := by unfold yieldB; rw [HS.out, hf]; rfl
          have HO := hide (HJ.out.trans (getK_no hlt hno))
          clear hf hno HJ
          go_wp2_with (refine wpList_storeS rfl _ _ rfl rfl G2 s rfl rfl _ q1 ?_)
          go_roundw
          case rel => exact ⟨j + 1, by omega, by go_num, HO, r0, rb⟩
          case measure => simp [intOf]; omega
        | true =>
          rw [hf] at c33
          have hok : yieldB (atA l j) x = decide ((deriveA s.sec s.idx x).2 = 0) := by unfold yieldB; rw [HS.out, hf]; rfl
          have HO := hide hok
          clear hf hok
          go_wp2_with (first | refine wpList_storeS rfl _ _ rfl rfl G2 s rfl rfl _ q1 ?_ | refine wpList_load_part rfl 106 _ rfl G2 0 rfl 106 _ 34 34 _ r1 (by omega) Tryz.underlying106 rfl infoS s.v (fun i hi => by rw [Nat.zero_add]) ?_)
          refine (yields_any s x _ rG).mono ?_
          obtain ⟨D, hD⟩ : ∃ D, deriveA s.sec s.idx x = D := ⟨_, rfl⟩
          have HD := hide hD
          rw [hD]
          clear hD
          rintro e w7 ⟨rfl, hb7⟩
          have t0 := r0.below hb7 r0.lt
          have tb := rb.trans (hb7.mono rb.size)
          clear r0 r1 rb rG hb7 q1 c33 hW6
          obtain ⟨H, e⟩ := D
          simp only
          obtain ⟨w8, hW8⟩ : ∃ w8, w7.alloc (.cells (tabv (fun _ => .int .u8 0) 32) 23) = w8 := ⟨_, rfl⟩
          obtain ⟨G3, hG3⟩ : ∃ G3, w7.heap.size = G3 := ⟨_, rfl⟩
          have p1 : Has w8 G3 23 (fun _ => .int .u8 0) 32 := by rw [← hW8, ← hG3]; exact Has.new w7 23 _ 32 _ rfl
          have pb : Below w.heap.size w w8 := by rw [← hW8]; exact tb.alloc tb.size _
          have p0 : Has w8 w.heap.size 23 (fun _ => .int .u8 0) 32 := by rw [← hW8]; exact t0.old _
          have hne3 : w.heap.size ≠ G3 := by rw [← hG3]; exact Nat.ne_of_lt t0.lt
          have hge3 : w.heap.size ≤ G3 := by rw [← hG3]; exact tb.size
          rw [zero32] at hW8
          have u0 := p0.row_other G3 (tabv (bv H) 32) hne3
          have u1 := p1.row _ (bv H) rfl
          have ub := below_setRow pb hge3 (tabv (bv H) 32)
          clear t0 tb p0 pb
          by_cases he : e = 0
          · subst he
            have HA := hide (HJ.out.trans (getK_yes hlt (by rw [HO.out, HD.out]; rfl)))
            rw [HS.out, HD.out] at HA
            clear HJ HO
            go_wp2_with (first | refine wpList_storeH rfl _ _ rfl rfl G3 H rfl rfl _ p1 ?_ | refine wpList_load_part rfl 23 _ rfl G3 0 rfl 23 _ 32 32 _ u1 (by omega) Tryz.underlying23 rfl info26 (bv H) (fun i hi => by rw [Nat.zero_add]) ?_ | refine wpList_storeH rfl _ _ rfl rfl w.heap.size H rfl rfl _ u0 ?_)
            rw [HA.out]
            exact bodyPost_ret (resCT _ w.heap.size _ _ 0 4 5 (u0.row _ (bv H) rfl) rfl rfl _ rfl) rfl ⟨rfl, below_setRow ub (Nat.le_refl _) _⟩
          · have HA := hide (HJ.out.trans (getK_no hlt (by rw [HO.out, HD.out]; simpa using he)))
            clear HJ HO
            have hd2 : (e == 0) = false := by simpa using he
            go_wp2_with (refine wpList_storeH rfl _ _ rfl rfl G3 H rfl rfl _ p1 ?_)
            go_roundw
            case rel => exact ⟨j + 1, by omega, by go_num, HA, u0, ub⟩
            case measure => simp [intOf]; omega
      · have hjL : j = 49 := by omega
        subst hjL
        have hd : decide (((49 : Nat) : Int) < 49) = false := by decide
        have hA : A = (fun _ => 0, 5) := HJ.out
        clear HJ
        subst hA
        go_wp2_with (refine wpList_storeH rfl _ _ rfl rfl w.heap.size (fun _ => 0) rfl rfl _ g1 ?_)
        exact bodyPost_ret (resCT _ w.heap.size _ _ 5 4 5 (g1.row _ (bv (fun _ => 0)) rfl) rfl rfl _ rfl) rfl ⟨rfl, below_setRow gb (Nat.le_refl _) _⟩
end Go.Proofs.YtmmcoedgoekhgaaGreatDoor
/-
  The examples that the statements ask first, plain.
-/
namespace Go.Proofs.YtmmcoedgoekhgaaGreatDoor
set_option maxRecDepth 20000
open Go.RowKit S
set_option linter.unusedVariables false
set_option linter.unusedSimpArgs false
end Go.Proofs.YtmmcoedgoekhgaaGreatDoor
/-
  The statements' first (printed by gen_first.py).
-/
namespace Go.Proofs.YtmmcoedgoekhgaaGreatDoor
set_option maxRecDepth 20000
open Go.RowKit S
set_option linter.unusedVariables false
set_option linter.unusedSimpArgs false
end Go.Proofs.YtmmcoedgoekhgaaGreatDoor
/-
  A shelf of one slot, plain.
-/
namespace Go.Proofs.YtmmcoedgoekhgaaGreatDoor
set_option maxRecDepth 20000
open Go.RowKit S
set_option linter.unusedVariables false
set_option linter.unusedSimpArgs false
end Go.Proofs.YtmmcoedgoekhgaaGreatDoor
/-
  Rows of slots and of hashes, grown by append.
-/
namespace Go.Proofs.YtmmcoedgoekhgaaGreatDoor
set_option maxRecDepth 20000
open Go.RowKit S
set_option linter.unusedVariables false
set_option linter.unusedSimpArgs false
def cellsH (l : List (Nat → UInt8)) : List Value := l.flatMap fun s => (tabv (bv s) 32).toList
theorem cellsH_cons (s : Nat → UInt8) (l : List (Nat → UInt8)) : cellsH (s :: l) = (tabv (bv s) 32).toList ++ cellsH l := by simp [cellsH]
theorem cellsH_get : ∀ (l : List (Nat → UInt8)) (k : Nat) (s : Nat → UInt8) (hk : l[k]? = some s) (j : Nat), j < 32 → (cellsH l)[k * 32 + j]? = some (bv s j)
  | [], k, s, hk, j, hj => by simp at hk
  | x :: l, 0, s, hk, j, hj => by
    simp only [List.getElem?_cons_zero, Option.some.injEq] at hk
    subst hk
    rw [cellsH_cons, List.getElem?_append_left (by rw [tabv_len]; omega), Array.getElem?_toList, Nat.zero_mul, Nat.zero_add, tabv_get _ _ _ hj]
  | x :: l, k + 1, s, hk, j, hj => by
    simp only [List.getElem?_cons_succ] at hk
    rw [cellsH_cons, List.getElem?_append_right (by rw [tabv_len]; omega), tabv_len, show (k + 1) * 32 + j - 32 = k * 32 + j by omega]
    exact cellsH_get l k s hk j hj
def OwnH (B : Nat) (w : World) (v : Value) (l : List (Nat → UInt8)) : Prop := w.ownsRow B 23 32 v l.length (cellsH l)
theorem OwnH.nil (B : Nat) (w : World) : OwnH B w (.slice none 0 0) [] := World.ownsRow_nil w B _ _
theorem OwnH.lt {B : Nat} {w : World} {v : Value} {l : List (Nat → UInt8)} (h : OwnH B w v l) : ∀ k, v.ownBlock = some k → B ≤ k ∧ k < w.heap.size := World.ownsRow.lt h
theorem OwnH.same {B : Nat} {w w' : World} {v : Value} {l : List (Nat → UInt8)} (h : OwnH B w v l) (e : ∀ k, v.ownBlock = some k → w'.heap[k]? = w.heap[k]?) : OwnH B w' v l := by
  refine ⟨h.1, h.2.imp id fun ⟨g, cap, cur, h1, h2, h3, h4⟩ => ⟨g, cap, cur, h1, h2, ?_, h4⟩⟩
  rw [e g (by rw [h1]; rfl), h3]
theorem OwnH.below {B B' : Nat} {w w' : World} {v : Value} {l : List (Nat → UInt8)} (h : OwnH B w v l) (hb : Below B' w w') (hB : w.heap.size ≤ B') : OwnH B w' v l := h.same fun k hk => hb.block k (Nat.lt_of_lt_of_le (h.lt k hk).2 hB)
/-- Hashes behind a slice's address. -/
def Hashes (w : World) (ad : Option Addr) (l : List (Nat → UInt8)) : Prop := l = [] ∨ ∃ b o, ad = some ⟨b, o, none⟩ ∧ b < w.heap.size ∧ ∀ i s, l[i]? = some s → At w b (o + i * 32) (bv s) 32
theorem Hashes.get {w : World} {ad : Option Addr} {l : List (Nat → UInt8)} (h : Hashes w ad l) (k : Nat) (s : Nat → UInt8) (hk : l[k]? = some s) : ∃ b o, ad = some ⟨b, o, none⟩ ∧ b < w.heap.size ∧ At w b (o + k * 32) (bv s) 32 := by
  rcases h with rfl | ⟨b, o, h1, h2, h3⟩
  · simp at hk
  · exact ⟨b, o, h1, h2, h3 k s hk⟩
theorem Hashes.below {w w' : World} {ad : Option Addr} {l : List (Nat → UInt8)} (h : Hashes w ad l) (hb : Below w.heap.size w w') : Hashes w' ad l := by
  rcases h with rfl | ⟨b, o, h1, h2, h3⟩
  · exact .inl rfl
  · exact .inr ⟨b, o, h1, Nat.lt_of_lt_of_le h2 hb.size, fun i s hs => (h3 i s hs).below hb h2⟩
theorem OwnH.slots {B : Nat} {w : World} {v : Value} {l : List (Nat → UInt8)} (h : OwnH B w v l) : ∃ ad cap, v = .slice ad l.length cap ∧ Hashes w ad l := by
  obtain ⟨hl, ⟨rfl, hn⟩ | ⟨g, cap, cur, rfl, hb, hg, h1, h2, h3, h4⟩⟩ := h
  · have : l = [] := List.length_eq_zero_iff.1 hn
    subst this
    exact ⟨none, 0, rfl, .inl rfl⟩
  · have hlt : g < w.heap.size := by
      rcases Nat.lt_or_ge g w.heap.size with h | h
      · exact h
      · rw [Array.getElem?_eq_none h] at hg; cases hg
    refine ⟨some ⟨g, 0, none⟩, cap, rfl, .inr ⟨g, 0, rfl, hlt, fun i s hs j hj => ?_⟩⟩
    rw [cell_of_row w g _ cur _ (0, 0) hg]
    have hi : i < l.length := (List.getElem?_eq_some_iff.1 hs).1
    have e := cellsH_get l i s hs j hj
    rw [← h4, List.getElem?_take] at e
    rw [if_pos (by omega), Array.getElem?_toList] at e
    rw [show 0 + i * 32 + j = i * 32 + j by omega]
    exact e
end Go.Proofs.YtmmcoedgoekhgaaGreatDoor
/-
  One more slot, one more hash, as the walk meets it.
-/
namespace Go.Proofs.YtmmcoedgoekhgaaGreatDoor
set_option maxRecDepth 20000
open Go.RowKit S
set_option linter.unusedVariables false
set_option linter.unusedSimpArgs false
-- stands in another text: grown_all
-- left out in this seat: appH_step
end Go.Proofs.YtmmcoedgoekhgaaGreatDoor
/-
  The statements' own helpers: same, lend, kept.
-/
namespace Go.Proofs.YtmmcoedgoekhgaaGreatDoor
set_option maxRecDepth 20000
open Go.RowKit S
set_option linter.unusedVariables false
set_option linter.unusedSimpArgs false
-- left out in this seat: same_any
def mark : Slot := ⟨-7, fun _ => 0, false⟩
theorem run_app_allH (w : World) (ad : Option Addr) (cap : Nat) (l : List Slot) (hS : Slots w ad l) (hz : l.length * 48 ≤ 140737488355328) :
    ∃ v' w', (Builtin.append_ #[30, 30] 30 #[.slice none 0 0, .slice ad l.length cap]).run Tryz.prog w = .ok v' w' ∧ OwnS w.heap.size w' v' l ∧ Below w.heap.size w w' := by
  obtain ⟨i, h1, h2, h3, h4⟩ := infoPH
  cases ad with
  | none =>
    have hl : l = [] := by
      rcases hS with rfl | ⟨b, o, h, _⟩
      · rfl
      · cases h
    subst hl
    refine ⟨.slice none 0 0, w, ?_, OwnS.nil _ _, Below.refl _ _⟩
    simp [Builtin.append_, run_underlying Tryz.underlying30, sizeOf, typeInfo, h1, Builtin.lenOf, Builtin.firstCells, storeCells, loadCells, loadCellsFrom]
  | some a =>
    obtain ⟨v', w', e1, e2, e3, _⟩ := run_append_own (P := Tryz.prog) w w.heap.size 30 30 106 i _ 34 48 Tryz.underlying30 h1 h2 h3 h4 (by rfl) (by omega) (.slice none 0 0) 0 [] (World.ownsRow_nil w _ _ _) a l.length cap (cellsS l) (cellsS_length l)
      (fun j u hj => by
        have hjl : j < l.length * 34 := by have := (List.getElem?_eq_some_iff.1 hj).1; rw [cellsS_length] at this; exact this
        rcases hS with rfl | ⟨b, o, ha, _, h⟩
        · simp at hjl
        · cases ha
          have hk : j / 34 < l.length := by omega
          have hs : l[j / 34]? = some l[j / 34] := List.getElem?_eq_getElem hk
          have hc := h (j / 34) _ hs (j % 34) (by omega)
          have hg := cellsS_get l (j / 34) _ hs (j % 34) (by omega)
          rw [show j / 34 * 34 + j % 34 = j by omega, hj] at hg
          have hadd : (⟨b, o, none⟩ : Addr).add j = ⟨b, o + j, none⟩ := by unfold Addr.add; split <;> simp_all
          rw [hadd, hg, ← hc, show o + j / 34 * 34 + j % 34 = o + j by omega])
      (oneCell_S _) (by unfold maxLen; omega) (by omega) (Nat.le_refl _)
    refine ⟨v', w', e1, ?_, ⟨e3.os, e3.tape, e3.output, e3.size, fun k hk => e3.block k hk (by simp [Value.ownBlock])⟩⟩
    unfold OwnS
    rw [Nat.zero_add, List.nil_append] at e2
    exact e2
-- left out in this seat: lend_any
-- stands in another text: Lent.below
-- stands in another text: Lent.form
-- left out in this seat: kept_any
end Go.Proofs.YtmmcoedgoekhgaaGreatDoor
