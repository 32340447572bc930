/-
  Open adds in memory; how two of them are compared.
-/
import Derived.Test.YtbeoojnofblnjaaGSortM
import Derived.Test.YtbeoojnofblnjaaGOpen
namespace Go.Proofs.Ytbeoojnofblnjaa
open Go.RowKit S Go.Shelf Go.Sort
set_option linter.unusedVariables false
set_option linter.unusedSimpArgs false
structure Pen where
  ours : Bool
  id : Int
  amt : Int
  hash : Nat → UInt8
instance : Inhabited Pen := ⟨⟨false, 0, 0, fun _ => 0⟩⟩
def Pen.v (s : Pen) : Nat → Value := fun i => if i = 0 then .bool s.ours else if i = 1 then .int .i64 s.id else if i = 2 then .int .i64 s.amt else .int .u8 ((s.hash (i - 3)).toNat : Int)
def Pen.zero : Pen := ⟨false, 0, 0, fun _ => 0⟩
def Pen.enc (s : Pen) : List Value := (tabv s.v 35).toList
theorem Pen.enc_arr (s : Pen) : s.enc.toArray = tabv s.v 35 := by unfold Pen.enc; rw [Array.toArray_toList]
theorem Pen.enc_len (s : Pen) : s.enc.length = 35 := by unfold Pen.enc; rw [Array.length_toList, tabv_size]
theorem Pen.one (s : Pen) : ∀ u ∈ s.enc, u.oneCell' = true := by
  intro u hu
  unfold Pen.enc tabv at hu
  rw [List.toList_toArray] at hu
  obtain ⟨i, _, rfl⟩ := List.mem_map.1 hu
  unfold Pen.v
  repeat' split
  all_goals rfl
theorem infoP : (Try.prog.info? 55).map (·.size) = some 35 := by kernel_rfl
def cmpI (a b : Int) : Int := if a < b then -1 else if b < a then 1 else 0
def cmpP (a b : Pen) : Int := cmpI a.id b.id
theorem cmpP_lt (a b : Pen) : cmpP a b < 0 ↔ a.id < b.id := by 
  unfold cmpP cmpI; split
  · omega
  · split <;> omega
theorem nan_any (a : Int) (w : World) : Calls Try.prog 33 #[.int .i64 a] w fun e w' => e = .returned (.bool false) ∧ w' = w := by
  go_enter Try.func33, Try.ntmps33
  go_wp2
  go_ret
  simp
theorem compare_any (a b : Int) (w : World) : Calls Try.prog 31 #[.int .i64 a, .int .i64 b] w fun e w' => e = .returned (.int .i64 (cmpI a b)) ∧ w' = w := by
  by_cases h1 : a < b
  · rw [show cmpI a b = -1 by unfold cmpI; rw [if_pos h1]]
    have hd : decide (a < b) = true := decide_eq_true h1
    go_enter Try.func31, Try.ntmps31
    go_wp2_with (go_at_call 33; go_must (refine (nan_any _ _).mono ?_); rintro e wx ⟨rfl, hx⟩; obtain rfl := hx.symm; clear hx)
    go_ret
    simp
  · have hd : decide (a < b) = false := decide_eq_false h1
    by_cases h2 : b < a
    · rw [show cmpI a b = 1 by unfold cmpI; rw [if_neg h1, if_pos h2]]
      have hd2 : decide (b < a) = true := decide_eq_true h2
      go_enter Try.func31, Try.ntmps31
      go_wp2_with (go_at_call 33; go_must (refine (nan_any _ _).mono ?_); rintro e wx ⟨rfl, hx⟩; obtain rfl := hx.symm; clear hx)
      go_ret
      simp
    · rw [show cmpI a b = 0 by unfold cmpI; rw [if_neg h1, if_neg h2]]
      have hd2 : decide (b < a) = false := decide_eq_false h2
      go_enter Try.func31, Try.ntmps31
      go_wp2_with (go_at_call 33; go_must (refine (nan_any _ _).mono ?_); rintro e wx ⟨rfl, hx⟩; obtain rfl := hx.symm; clear hx)
      go_ret
      simp
set_option maxRecDepth 100000 in
theorem byID_any (x y : Pen) (w : World) : Calls Try.prog 30 #[.agg x.enc.toArray, .agg y.enc.toArray] w fun e w' => e = .returned (.int .i64 (cmpP x y)) ∧ ∃ q os, w' = grow (w.drewN q) os := by
  rw [Pen.enc_arr, Pen.enc_arr]
  obtain ⟨w1, hw1⟩ : ∃ w1, w.alloc (.cells (tabv x.v 35) 55) = w1 := ⟨_, rfl⟩
  obtain ⟨w2, hw2⟩ : ∃ w2, w1.alloc (.cells (tabv y.v 35) 55) = w2 := ⟨_, rfl⟩
  have g1 : Has w1 w.heap.size 55 x.v 35 := by rw [← hw1]; exact Has.new w 55 x.v 35 _ rfl
  have g2 : Has w2 w1.heap.size 55 y.v 35 := by rw [← hw2]; exact Has.new w1 55 y.v 35 _ rfl
  have h1 : Has w2 w.heap.size 55 x.v 35 := by rw [← hw2]; exact g1.old _
  have c1 : w2.cell? ⟨w.heap.size, 1, none⟩ = some (.int .i64 x.id) := h1.cell 1 (by omega)
  have c2 : w2.cell? ⟨w1.heap.size, 1, none⟩ = some (.int .i64 y.id) := g2.cell 1 (by omega)
  have hfin : ∃ q os, w2 = grow (w.drewN q) os := ⟨0, #[.cells (tabv x.v 35) 55] ++ #[.cells (tabv y.v 35) 55], by rw [← hw2, ← hw1, alloc_eq_grow, alloc_eq_grow, grow_grow]; rfl⟩
  have HF := hide hfin
  unfold cmpP
  clear g1 g2 h1 hfin
  go_enter Try.func30, Try.ntmps30
  go_wp2_with (go_at_call 31; go_must (refine (compare_any _ _ _).mono ?_); rintro e wx ⟨rfl, hx⟩; obtain rfl := hx.symm; clear hx)
  go_ret
  exact ⟨rfl, HF.out⟩
theorem cmpLays (blk off n : Nat) (w : World) : CmpLays Try.prog 30 #[] Pen.enc 35 cmpP blk off n w := fun m os dk hs x y => by
  simpa using byID_any x y _
end Go.Proofs.Ytbeoojnofblnjaa
