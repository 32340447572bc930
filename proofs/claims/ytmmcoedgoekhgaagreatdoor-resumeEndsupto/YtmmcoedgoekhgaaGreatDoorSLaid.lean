import Derived.WalkKit
import Derived.Test.YtmmcoedgoekhgaaGreatDoorLast
import Derived.Test.YtmmcoedgoekhgaaGreatDoorRot
import Derived.Test.YtmmcoedgoekhgaaGreatDoorRefSum
import Derived.Test.YtmmcoedgoekhgaaGreatDoorBytesText
import Derived.Test.YtmmcoedgoekhgaaGreatDoorGSortM
import Derived.Deep.RegionHeld3
import Derived.BigQuiet
import Derived.Test.YtmmcoedgoekhgaaGreatDoorRows
import Derived.ProofKit
import Derived.OpenShut
import Derived.Lib.LaidTab
/-
  SEEDS, PLAIN: places, levels, going down.
-/
namespace Go.Proofs.YtmmcoedgoekhgaaGreatDoor
set_option maxRecDepth 20000
/-- Going down by k bits of a place p, the lowest of them lo. -/
def goDown {X : Type} (step : Nat → X → X) (p : Nat) : Nat → Nat → X → X
  | 0, _, P => P
  | k + 1, lo, P => goDown step p k lo (if p.testBit (lo + k) then step (lo + k) P else P)
section
variable {X : Type} (step : Nat → X → X)
end
/-- The level: how many bits at the end are 0, at most m. -/
def lvl (p : Nat) : Nat → Nat
  | 0 => 0
  | m + 1 => if p.testBit 0 then 0 else lvl (p / 2) m + 1
theorem lvl_le (m : Nat) : ∀ p, lvl p m ≤ m := by
  induction m with
  | zero => intro p; exact Nat.le_refl _
  | succ m ih => intro p; unfold lvl; split; omega; have := ih (p / 2); omega
/-- The place of a number. -/
def place (n : Nat) : Nat := 281474976710655 - n
/-- to hangs on from. -/
def Hangs (p q : Nat) : Prop := ∀ i, lvl p 48 ≤ i → i < 48 → p.testBit i = q.testBit i
section
variable {X : Type} (step : Nat → X → X)
def secretOf (s : X) (n : Nat) : X := goDown step (place n) 48 0 s
def deriveOf (s : X) (a c : Nat) : X := goDown step (place c) (lvl (place a) 48) 0 s
end
end Go.Proofs.YtmmcoedgoekhgaaGreatDoor
/-
  One step down: a bit turned, then the sum.
-/
namespace Go.Proofs.YtmmcoedgoekhgaaGreatDoor
set_option maxRecDepth 20000
open S
-- stands in another text: listOf
/-- One bit of a hash turned. -/
def flipB (B : Nat) (h : Nat → UInt8) : Nat → UInt8 := fun j => if j = B / 8 then h j ^^^ UInt8.ofNat (2 ^ (B % 8)) else h j
def step (B : Nat) (h : Nat → UInt8) : Nat → UInt8 := sha (listOf (flipB B h))
def flipL (B : Nat) (l : List UInt8) : List UInt8 := (List.range 32).map fun j => if j = B / 8 then l.getD j 0 ^^^ UInt8.ofNat (2 ^ (B % 8)) else l.getD j 0
theorem listOf_getD (h : Nat → UInt8) (j : Nat) (hj : j < 32) : (listOf h).getD j 0 = h j := by
  unfold listOf
  rw [List.getD_eq_getElem?_getD, List.getElem?_map, List.getElem?_range hj]
  rfl
theorem flip_list (B : Nat) (h : Nat → UInt8) : listOf (flipB B h) = flipL B (listOf h) := by
  unfold flipL
  show (List.range 32).map _ = _
  refine List.map_congr_left fun j hj => ?_
  rw [listOf_getD h j (List.mem_range.1 hj)]
  rfl
theorem step_list (B : Nat) (h : Nat → UInt8) : listOf (step B h) = listOf (sha (flipL B (listOf h))) := by
  unfold step; rw [flip_list]
set_option maxRecDepth 100000 in
/-- All 48 bits of the place of 0 are 1. -/
theorem secret_ones (s : Nat → UInt8) : secretOf step s 0 = (step 0 (step 1 (step 2 (step 3 (step 4 (step 5 (step 6 (step 7 (step 8 (step 9 (step 10 (step 11 (step 12 (step 13 (step 14 (step 15 (step 16 (step 17 (step 18 (step 19 (step 20 (step 21 (step 22 (step 23 (step 24 (step 25 (step 26 (step 27 (step 28 (step 29 (step 30 (step 31 (step 32 (step 33 (step 34 (step 35 (step 36 (step 37 (step 38 (step 39 (step 40 (step 41 (step 42 (step 43 (step 44 (step 45 (step 46 (step 47 s)))))))))))))))))))))))))))))))))))))))))))))))) := by
  rfl
end Go.Proofs.YtmmcoedgoekhgaaGreatDoor
/-
  The document's own side of layer 9.
-/
namespace Go.Proofs.YtmmcoedgoekhgaaGreatDoor
set_option maxRecDepth 20000
open Go.RowKit S
set_option linter.unusedVariables false
def isN (n : Int) : Bool := decide (0 ≤ n) && decide (n ≤ 281474976710655)
theorem isN_iff (n : Int) : isN n = true ↔ 0 ≤ n ∧ n ≤ 281474976710655 := by unfold isN; simp
theorem rgood_any (n : Int) (w : World) : Calls Tryz.prog 88 #[.int .i64 n] w fun e w' => e = .returned (.bool (isN n)) ∧ w' = w := by
  by_cases h : 0 ≤ n
  · have e : isN n = decide (n ≤ 281474976710655) := by simp [isN, h]
    rw [e]
    go_enter Tryz.func88, Tryz.ntmps88
    go_wp2
    go_ret
    simp
  · have e : isN n = false := by simp [isN, h]
    rw [e]
    go_enter Tryz.func88, Tryz.ntmps88
    go_wp2
    go_ret
    simp
/-- A place's bits, the lowest first. -/
def placeV (p : Nat) : Nat → Value := fun i => .int .i64 ((p / 2 ^ i % 2 : Nat) : Int)
def placeUp (p k : Nat) : Nat → Value := fun i => if i < k then placeV p i else .int .i64 0
theorem placeUp_next (p k : Nat) : upd (placeUp p k) k (.int .i64 ((p / 2 ^ k % 2 : Nat) : Int)) = placeUp p (k + 1) := by
  funext i
  unfold upd placeUp
  by_cases h : i = k
  · subst h; rw [if_pos rfl, if_pos (by omega)]; rfl
  · rw [if_neg h]
    by_cases h2 : i < k
    · rw [if_pos h2, if_pos (by omega)]
    · rw [if_neg h2, if_neg (by omega)]
theorem info48 : (Tryz.prog.info? 131).map (·.size) = some 48 := by kernel_rfl
set_option maxRecDepth 100000 in
set_option maxHeartbeats 1000000 in
theorem rplace_any (p : Nat) (hp : p ≤ 281474976710655) (w : World) : Calls Tryz.prog 90 #[.int .i64 (281474976710655 - (p : Int))] w fun e w' => e = .returned (.agg (tabv (placeV p) 48)) ∧ Below w.heap.size w w' := by
  go_enter Tryz.func90, Tryz.ntmps90
  go_wp2
  generalize hW : World.alloc (World.alloc w _) _ = w3
  have g0 : Has w3 w.heap.size 131 (fun _ => .int .i64 0) 48 := by rw [← hW]; exact (Has.new w 131 (fun _ => .int .i64 0) 48 _ rfl).old _
  have g1 : Has w3 (w.heap.size + 1) 131 (placeUp p 0) 48 := by
    rw [← hW]
    have := (Has.new (w.alloc (.cells (tabv (fun _ => .int .i64 0) 48) 131)) 131 (fun _ => .int .i64 0) 48 _ rfl).congr (placeUp p 0) (fun i _ => by unfold placeUp; rw [if_neg (by omega)])
    rw [size_alloc] at this
    exact this
  have gb : Below w.heap.size w w3 := by rw [← hW]; exact ((Below.refl w.heap.size w).alloc (Nat.le_refl _) _).alloc (by simp) _
  clear hW
  go_loopw [4, 5] (fun q i wr => ∃ k : Nat, k ≤ 48 ∧ i = .int .i64 k ∧ q = .int .i64 ((p / 2 ^ k : Nat) : Int) ∧ Has wr w.heap.size 131 (fun _ => .int .i64 0) 48 ∧ Has wr (w.heap.size + 1) 131 (placeUp p k) 48 ∧ Below w.heap.size w wr) (fun q i _ => 48 - (intOf i).toNat)
  case atStart => exact ⟨0, by omega, rfl, by congr 1; simp; omega, g0, g1, gb⟩
  case round =>
    clear g0 g1 gb
    obtain ⟨k, hk, rfl, rfl, g0, g1, gb⟩ := hrel
    by_cases hlt : k < 48
    · obtain ⟨m, hm⟩ : ∃ m, p / 2 ^ k = m := ⟨_, rfl⟩
      rw [hm]
      have c0 := g1.cell k hlt
      have f0 := g1.frozen k
      have hd : decide ((k : Int) < 48) = true := by simp; omega
      have hk0 : (0 : Int) ≤ (k : Int) := by omega
      have hk1 : (k : Int) < 48 := by omega
      have e1 : (m : Int).tmod 2 = ((m % 2 : Nat) : Int) := by rw [Int.tmod_eq_emod_of_nonneg (by omega)]; omega
      have e2 : (m : Int).tdiv 2 = ((m / 2 : Nat) : Int) := by rw [Int.tdiv_eq_ediv_of_nonneg (by omega)]; omega
      have hmle : m ≤ 281474976710655 := by rw [← hm]; exact Nat.le_trans (Nat.div_le_self _ _) hp
      have HM := hide hm
      clear hm
      go_wp2
      go_roundw
      case rel =>
        refine ⟨k + 1, by omega, by go_num, ?_, g0.other _ _ (by simp), ?_, gb.setCell (by simp) _⟩
        · rw [Nat.pow_succ, ← Nat.div_div_eq_div_mul, HM.out]; congr 1
        · have := g1.set k (.int .i64 ((p / 2 ^ k % 2 : Nat) : Int))
          rw [placeUp_next, HM.out] at this
          exact this
      case measure => simp [intOf]; omega
    · have hk8 : k = 48 := by omega
      subst hk8
      have hd : decide (((48 : Nat) : Int) < 48) = false := by decide
      go_wp2_with (first | refine wpList_load_part rfl 131 _ rfl (w.heap.size + 1) 0 rfl 131 _ 48 48 _ g1 (by omega) Tryz.underlying131 rfl info48 (placeV p) (fun i hi => by rw [Nat.zero_add]; unfold placeUp; rw [if_pos (by omega)]) ?_ | refine wpList_store_part rfl 131 _ _ rfl rfl w.heap.size 0 (placeV p) 48 rfl rfl 131 _ 48 g0 (by omega) info48 (fun _ _ => rfl) (placeV p) (fun i hi => by unfold splice; rw [if_pos (by omega), Nat.sub_zero]) ?_)
      exact bodyPost_ret (results_cell_row rfl _ _ w.heap.size 131 _ (0, 0) _ rfl (g0.row _ _ rfl) Tryz.underlying131 rfl (by rw [tabv_size]; exact info48)) rfl ⟨rfl, below_setRow gb (Nat.le_refl _) _⟩
theorem bit_div (p i : Nat) : p.testBit i = decide (p / 2 ^ i % 2 = 1) := by
  rw [Nat.testBit_eq_decide_div_mod_eq]
theorem lvl_step (p m : Nat) : ∀ k, (∀ i, i < k → p / 2 ^ i % 2 = 0) → k ≤ m → lvl p m = k + lvl (p / 2 ^ k) (m - k)
  | 0, _, _ => by simp
  | k + 1, h, hk => by
    rw [lvl_step p m k (fun i hi => h i (by omega)) (by omega)]
    obtain ⟨j, hj⟩ : ∃ j, m - k = j + 1 := ⟨m - k - 1, by omega⟩
    rw [hj]
    have h0 := h k (by omega)
    have hb : (p / 2 ^ k).testBit 0 = false := by simp [h0]
    show k + (if (p / 2 ^ k).testBit 0 = true then 0 else lvl (p / 2 ^ k / 2) j + 1) = _
    rw [if_neg (by rw [hb]; decide), Nat.div_div_eq_div_mul, ← Nat.pow_succ, show m - (k + 1) = j by omega, Nat.succ_eq_add_one]
    omega
theorem lvl_here (p m k : Nat) (h : ∀ i, i < k → p / 2 ^ i % 2 = 0) (hk : k < m) (h1 : p / 2 ^ k % 2 = 1) : lvl p m = k := by
  rw [lvl_step p m k h (by omega)]
  obtain ⟨j, hj⟩ : ∃ j, m - k = j + 1 := ⟨m - k - 1, by omega⟩
  rw [hj]
  have hb : (p / 2 ^ k).testBit 0 = true := by simp [h1]
  show k + (if (p / 2 ^ k).testBit 0 = true then 0 else _) = _
  rw [if_pos hb]; rfl
theorem lvl_none (p m : Nat) (h : ∀ i, i < m → p / 2 ^ i % 2 = 0) : lvl p m = m := by
  rw [lvl_step p m m h (Nat.le_refl _), Nat.sub_self]; rfl
theorem zero32 : tabv (fun _ => (.int .u8 0 : Value)) 32 = (#[.int .u8 0, .int .u8 0, .int .u8 0, .int .u8 0, .int .u8 0, .int .u8 0, .int .u8 0, .int .u8 0, .int .u8 0, .int .u8 0, .int .u8 0, .int .u8 0, .int .u8 0, .int .u8 0, .int .u8 0, .int .u8 0, .int .u8 0, .int .u8 0, .int .u8 0, .int .u8 0, .int .u8 0, .int .u8 0, .int .u8 0, .int .u8 0, .int .u8 0, .int .u8 0, .int .u8 0, .int .u8 0, .int .u8 0, .int .u8 0, .int .u8 0, .int .u8 0] : Array Value) := rfl
set_option maxRecDepth 100000 in
set_option maxHeartbeats 1000000 in
theorem rpoint_any (n : Num) (h : Nat → UInt8) (w : World) : Calls Tryz.prog 112 #[.agg (tabv (bv h) 32)] w fun e w' => e = .returned (.agg (tabv (bv (sha (listOf h))) 32)) ∧ Below w.heap.size w w' := by
  obtain ⟨w3, hW⟩ : ∃ w3, (w.alloc (.cells (tabv (bv h) 32) 23)).alloc (.cells (tabv (fun _ => .int .u8 0) 32) 23) = w3 := ⟨_, rfl⟩
  have g0 : Has w3 w.heap.size 23 (bv h) 32 := by rw [← hW]; exact (Has.new w 23 (bv h) 32 _ rfl).old _
  have g1 : Has w3 (w.heap.size + 1) 23 (fun _ => .int .u8 0) 32 := by
    rw [← hW]
    have := Has.new (w.alloc (.cells (tabv (bv h) 32) 23)) 23 (fun _ => .int .u8 0) 32 _ rfl
    rw [size_alloc] at this
    exact this
  have gb : Below w.heap.size w w3 := by rw [← hW]; exact ((Below.refl w.heap.size w).alloc (Nat.le_refl _) _).alloc (by simp) _
  have hcv := run_conv g0 32 32 (by omega)
  rw [zero32] at hW
  go_enter Tryz.func112, Tryz.ntmps112
  go_wp2_with fail
  have hs : Strs (w3.alloc (.cells #[.string (strOf h 32)] 9)) (some ⟨w3.heap.size, 0, none⟩) [strOf h 32] := .inr ⟨w3.heap.size, 0, rfl, by simp, fun i hi => by
    have hi' : i < 1 := hi
    match i, hi' with
    | 0, _ => rw [cell_of_row _ w3.heap.size _ _ _ (0, 0) (heap_alloc_new w3 _)]; rfl⟩
  refine (refSum_any n _ _ [strOf h 32] _ hs (by simp [flat, strOf]) (by simp)).mono ?_
  rintro e w5 ⟨rfl, hb5⟩
  have e1 : flat [strOf h 32] = listOf h := by unfold flat strOf listOf; simp
  rw [e1]
  have hbb : Below w3.heap.size w3 w5 := (((Below.refl w3.heap.size w3).alloc (Nat.le_refl _) _).trans (hb5.mono (by simp)))
  have g1' := g1.below hbb g1.lt
  have gb' := gb.trans (hbb.mono gb.size)
  clear hW hcv hs hb5 hbb
  go_wp2_with (refine wpList_store_part rfl 23 _ _ rfl rfl (w.heap.size + 1) 0 (bv (sha (listOf h))) 32 rfl rfl 23 _ 32 g1' (by omega) info26 (fun _ _ => rfl) (bv (sha (listOf h))) (fun i hi => by unfold splice; rw [if_pos (by omega), Nat.sub_zero]) ?_)
  exact bodyPost_ret (results_cell_row rfl _ _ (w.heap.size + 1) 23 _ (0, 0) _ rfl (g1'.row _ _ rfl) Tryz.underlying23 rfl (by rw [tabv_size]; exact info26)) rfl ⟨rfl, below_setRow gb' (by omega) _⟩
/-- A hash's byte with one bit turned, as Go has it. -/
theorem flip_byte (h : Nat → UInt8) (B : Nat) : bits .xor .u8 ((h (B / 8)).toNat : Int) ((2 : Int) ^ (B % 8) % 256) = ((flipB B h (B / 8)).toNat : Int) := by
  unfold flipB
  rw [if_pos rfl]
  have h8 : B % 8 < 8 := Nat.mod_lt _ (by omega)
  generalize B % 8 = k at h8
  generalize h (B / 8) = c
  have key : ∀ (c : UInt8) (k : Nat), k < 8 → bits .xor .u8 (c.toNat : Int) ((2 : Int) ^ k % 256) = ((c ^^^ UInt8.ofNat (2 ^ k)).toNat : Int) := by
    intro c k hk
    have hc : ∀ i : Fin 256, ∀ j : Fin 8, bits .xor .u8 ((i.val : Nat) : Int) ((2 : Int) ^ j.val % 256) = (((UInt8.ofNat i.val) ^^^ UInt8.ofNat (2 ^ j.val)).toNat : Int) := by decide +kernel
    have := hc ⟨c.toNat, c.toNat_lt⟩ ⟨k, hk⟩
    simpa using this
  exact key c k h8
theorem flip_upd (h : Nat → UInt8) (B : Nat) : upd (bv h) (B / 8) (.int .u8 ((flipB B h (B / 8)).toNat : Int)) = bv (flipB B h) := by
  funext j
  unfold upd bv
  by_cases e : j = B / 8
  · subst e; rw [if_pos rfl]
  · rw [if_neg e]; unfold flipB; rw [if_neg e]
set_option maxRecDepth 100000 in
set_option maxHeartbeats 2000000 in
theorem rdown_any (n : Num) (h : Nat → UInt8) (p below : Nat) (hb : below ≤ 48) (w : World) : Calls Tryz.prog 89 #[.agg (tabv (bv h) 32), .agg (tabv (placeV p) 48), .int .i64 (below : Int)] w fun e w' => e = .returned (.agg (tabv (bv (goDown step p below 0 h)) 32)) ∧ Below w.heap.size w w' := by
  go_enter Tryz.func89, Tryz.ntmps89
  go_wp2
  generalize hW : World.alloc (World.alloc (World.alloc w _) _) _ = w3
  have g0 : Has w3 w.heap.size 23 (bv h) 32 := by rw [← hW]; exact ((Has.new w 23 (bv h) 32 _ rfl).old _).old _
  have g1 : Has w3 (w.heap.size + 1) 131 (placeV p) 48 := by
    rw [← hW]
    have := (Has.new (w.alloc (.cells (tabv (bv h) 32) 23)) 131 (placeV p) 48 _ rfl).old (.cells (tabv (fun _ => .int .u8 0) 32) 23)
    rw [size_alloc] at this
    exact this
  have g2 : Has w3 (w.heap.size + 1 + 1) 23 (fun _ => .int .u8 0) 32 := by
    rw [← hW]
    have := Has.new ((w.alloc (.cells (tabv (bv h) 32) 23)).alloc (.cells (tabv (placeV p) 48) 131)) 23 (fun _ => .int .u8 0) 32 _ rfl
    rw [size_alloc, size_alloc] at this
    exact this
  have gb : Below w.heap.size w w3 := by rw [← hW]; exact (((Below.refl w.heap.size w).alloc (Nat.le_refl _) _).alloc (by simp) _).alloc (by simp; omega) _
  clear hW
  go_loopw [7] (fun i wr => ∃ (k : Nat) (f : Nat → UInt8), k ≤ below ∧ i = .int .i64 ((k : Int) - 1) ∧ goDown step p below 0 h = goDown step p k 0 f ∧ Has wr w.heap.size 23 (bv f) 32 ∧ Has wr (w.heap.size + 1) 131 (placeV p) 48 ∧ Has wr (w.heap.size + 1 + 1) 23 (fun _ => .int .u8 0) 32 ∧ Below w.heap.size w wr) (fun i _ => (intOf i + 1).toNat)
  case atStart => exact ⟨below, h, by omega, rfl, rfl, g0, g1, g2, gb⟩
  case round =>
    clear g0 g1 g2 gb
    obtain ⟨k, f, hk, rfl, hgo, g0, g1, g2, gb⟩ := hrel
    cases k with
    | zero =>
      have hgo' : goDown step p below 0 h = f := hgo
      have HG := hide hgo'
      clear hgo hgo'
      go_wp2_with (first | refine wpList_load_part rfl 23 _ rfl w.heap.size 0 rfl 23 _ 32 32 _ g0 (by omega) Tryz.underlying23 rfl info26 (bv f) (fun i hi => by rw [Nat.zero_add]) ?_ | refine wpList_store_part rfl 23 _ _ rfl rfl (w.heap.size + 1 + 1) 0 (bv f) 32 rfl rfl 23 _ 32 g2 (by omega) info26 (fun _ _ => rfl) (bv f) (fun i hi => by unfold splice; rw [if_pos (by omega), Nat.sub_zero]) ?_)
      exact bodyPost_ret (results_cell_row rfl _ _ (w.heap.size + 1 + 1) 23 _ (0, 0) _ rfl (g2.row _ _ rfl) Tryz.underlying23 rfl (by rw [tabv_size]; exact info26)) rfl ⟨by rw [HG.out], below_setRow gb (by omega) _⟩
    | succ k =>
      have hk1 : (((k + 1 : Nat) : Int) - 1) = (k : Int) := by omega
      rw [hk1]
      have d0 : decide ((0 : Int) ≤ (k : Int)) = true := by simp
      have hk0 : (0 : Int) ≤ (k : Int) := by omega
      have hk48 : (k : Int) < 48 := by omega
      have c1 : wr.cell? ⟨w.heap.size + 1, k, none⟩ = some (.int .i64 ((p / 2 ^ k % 2 : Nat) : Int)) := g1.cell k (by omega)
      obtain ⟨b, hbb⟩ : ∃ b, p / 2 ^ k % 2 = b := ⟨_, rfl⟩
      rw [hbb] at c1
      have hbit := bit_div p k
      rw [hbb] at hbit
      have HGO := hide hgo
      have HBIT := hide hbit
      have hb2 : b = 0 ∨ b = 1 := by omega
      clear hgo hbit hbb hk1
      rcases hb2 with rfl | rfl
      · have HG2 : Hid (goDown step p below 0 h = goDown step p k 0 f) := hide (by
          rw [HGO.out]; show goDown step p k 0 (if p.testBit (0 + k) then _ else f) = _
          rw [Nat.zero_add, HBIT.out]; rfl)
        go_wp2
        go_roundw
        case rel => exact ⟨k, f, by omega, by go_num, HG2.out, g0, g1, g2, gb⟩
        case measure => simp [intOf]
      · have HG2 : Hid (goDown step p below 0 h = goDown step p k 0 (step k f)) := hide (by
          rw [HGO.out]; show goDown step p k 0 (if p.testBit (0 + k) then _ else f) = _
          rw [Nat.zero_add, HBIT.out]; rfl)
        have c0 : wr.cell? ⟨w.heap.size, k / 8, none⟩ = some (.int .u8 ((f (k / 8)).toNat : Int)) := g0.cell (k / 8) (by omega)
        have f0 := g0.frozen (k / 8)
        obtain ⟨ws, hws⟩ : ∃ ws, wr.setCell ⟨w.heap.size, k / 8, none⟩ (.int .u8 (bits .xor .u8 ((f (k / 8)).toNat : Int) ((2 : Int) ^ (k % 8) % 256))) = ws := ⟨_, rfl⟩
        have s0 : Has ws w.heap.size 23 (bv (flipB k f)) 32 := by
          have := g0.set (k / 8) (.int .u8 ((flipB k f (k / 8)).toNat : Int))
          rw [flip_upd, ← flip_byte, hws] at this
          exact this
        have s1 : Has ws (w.heap.size + 1) 131 (placeV p) 48 := by rw [← hws]; exact g1.other _ _ (by simp)
        have s2 : Has ws (w.heap.size + 1 + 1) 23 (fun _ => .int .u8 0) 32 := by rw [← hws]; exact g2.other _ _ (by simp; omega)
        have sb : Below w.heap.size w ws := by rw [← hws]; exact gb.setCell (by simp) _
        have HS0 := hide s0
        clear g0 g1 g2 gb
        go_wp2_with (refine wpList_load_part rfl 23 _ rfl w.heap.size 0 rfl 23 _ 32 32 _ HS0.out (by omega) Tryz.underlying23 rfl info26 (bv (flipB k f)) (fun i hi => by rw [Nat.zero_add]) ?_)
        refine (rpoint_any n _ _).mono ?_
        rintro e wt ⟨rfl, hbt⟩
        have t0 := s0.below hbt s0.lt
        have t1 := s1.below hbt s1.lt
        have t2 := s2.below hbt s2.lt
        have tb := sb.trans (hbt.mono sb.size)
        have HT0 := hide t0
        clear s0 s1 s2 sb hbt hws c0 f0 c1
        go_wp2_with (refine wpList_store_part rfl 23 _ _ rfl rfl w.heap.size 0 (bv (sha (listOf (flipB k f)))) 32 rfl rfl 23 _ 32 HT0.out (by omega) info26 (fun _ _ => rfl) (bv (step k f)) (fun i hi => by unfold splice; rw [if_pos (by omega), Nat.sub_zero]; rfl) ?_)
        go_roundw
        case rel => exact ⟨k, step k f, by omega, by go_num, HG2.out, t0.row _ _ rfl, t1.row_other _ _ (by omega), t2.row_other _ _ (by omega), below_setRow tb (by omega) _⟩
        case measure => simp [intOf]
end Go.Proofs.YtmmcoedgoekhgaaGreatDoor
/-
  The document's Secret, Level and Derive.
-/
namespace Go.Proofs.YtmmcoedgoekhgaaGreatDoor
set_option maxRecDepth 20000
open Go.RowKit S
set_option linter.unusedVariables false
def secretA (h : Nat → UInt8) (n : Int) : (Nat → UInt8) × Int := if isN n = true then (secretOf step h n.toNat, 0) else (fun _ => 0, 90)
def levelA (n : Int) : Int × Int := if isN n = true then ((lvl (place n.toNat) 48 : Int), 0) else (0, 90)
theorem place_num {n : Int} (h : isN n = true) : n = 281474976710655 - (place n.toNat : Int) ∧ place n.toNat ≤ 281474976710655 := by
  rw [isN_iff] at h
  unfold place
  omega
theorem resCT (w : World) (g : Nat) (f : Nat → Value) (tmps : Array Value) (k : Int) (c t : Nat) (hg : Has w g 23 f 32) (hp : tmps.getD c undef = .pointer (some ⟨g, 0, none⟩)) (hq : tmps.getD t undef = .int .i64 k) (fn : Func) (h : fn.results = #[.cell c 23, .tmp t]) :
    (results fn tmps).run Tryz.prog w = .ok (.tuple #[.agg (tabv f 32), .int .i64 k]) w := by
  rw [results_cell_tmp h, hp, hq]
  have := run_loadVar_row (P := Tryz.prog) w g 23 23 (tabv f 32) (0, 0) _ hg Tryz.underlying23 rfl (by rw [tabv_size]; exact info26)
  simp [asAddr, this]
theorem wp_store_partS {P : Program} {o : Oper} {a : Act} {w : World} {K : Act → World → Prop} {Q : Exit → Act → World → Prop} (ty : TypeId) (x y : Operand) (ho : o.op = .store ty x y) (hd : o.dst = none)
    (g of : Nat) (h : Nat → Value) (m : Nat) (hx : a.eval x = .pointer (some ⟨g, of, none⟩)) (hy : a.eval y = .agg (tabv h m))
    (t : TypeId) (f : Nat → Value) (M : Nat) (hg : Has w g t f M) (hm : of + m ≤ M) (hi : (P.info? ty).map (·.size) = some m)
    (h1 : ∀ i, i < m → (h i).oneCell' = true) (f' : Nat → Value) (hf : ∀ i, i < M → splice f of h m i = f' i)
    (hk : K a (w.setRow g (tabv f' M))) : o.wp P a w K Q := by
  unfold Oper.wp execOp
  simp only [ho, hx, hy, Instr.storeAt, Instr.sureAddr, Sem.run_bind, Sem.run_pure, Result.andThen_ok, run_storeVar_part w g of t ty f h M m hg hm hi h1]
  rw [tabv_congr _ f' M hf]
  unfold Oper.upon
  first | exact hk | (simp only [hd]; exact hk)
set_option maxRecDepth 100000 in
set_option maxHeartbeats 2000000 in
theorem rSecret_any (n : Num) (h : Nat → UInt8) (x : Int) (w : World) : Calls Tryz.prog 36 #[.agg (tabv (bv h) 32), .int .i64 x] w fun e w' => e = .returned (.tuple #[.agg (tabv (bv (secretA h x).1) 32), .int .i64 (secretA h x).2]) ∧ Below w.heap.size w w' := by
  obtain ⟨w3, hW⟩ : ∃ w3, (w.alloc (.cells (tabv (bv h) 32) 23)).alloc (.cells (tabv (fun _ => .int .u8 0) 32) 23) = w3 := ⟨_, rfl⟩
  have g0 : Has w3 w.heap.size 23 (bv h) 32 := by rw [← hW]; exact (Has.new w 23 (bv h) 32 _ rfl).old _
  have g1 : Has w3 (w.heap.size + 1) 23 (fun _ => .int .u8 0) 32 := by
    rw [← hW]
    have := Has.new (w.alloc (.cells (tabv (bv h) 32) 23)) 23 (fun _ => .int .u8 0) 32 _ rfl
    rw [size_alloc] at this
    exact this
  have gb : Below w.heap.size w w3 := by rw [← hW]; exact ((Below.refl w.heap.size w).alloc (Nat.le_refl _) _).alloc (by simp) _
  rw [zero32] at hW
  cases hx : isN x with
  | false =>
    have e : secretA h x = (fun _ => 0, 90) := by unfold secretA; rw [if_neg (by rw [hx]; decide)]
    rw [e]
    have HX := hide hx
    clear hx e
    go_enter Tryz.func36, Tryz.ntmps36
    go_wp2_with fail
    refine (rgood_any _ _).mono ?_
    rintro e w4 ⟨rfl, rfl⟩
    rw [HX.out]
    clear hW
    go_wp2_with (refine wpList_store_part rfl 23 _ _ rfl rfl (w.heap.size + 1) 0 (bv (fun _ => 0)) 32 rfl rfl 23 _ 32 g1 (by omega) info26 (fun _ _ => rfl) (bv (fun _ => 0)) (fun i hi => by unfold splice; rw [if_pos (by omega)]; rfl) ?_)
    exact bodyPost_ret (resCT _ (w.heap.size + 1) _ _ 90 4 5 (g1.row _ (bv (fun _ => 0)) rfl) rfl rfl _ rfl) rfl ⟨rfl, below_setRow gb (by omega) _⟩
  | true =>
    have e : secretA h x = (secretOf step h x.toNat, 0) := by unfold secretA; rw [if_pos hx]
    rw [e]
    obtain ⟨h1, h2⟩ := place_num hx
    have hsec : secretOf step h x.toNat = goDown step (place x.toNat) 48 0 h := rfl
    rw [hsec]
    obtain ⟨p, hp⟩ : ∃ p, place x.toNat = p := ⟨_, rfl⟩
    rw [hp] at h1 h2 ⊢
    have HP := fun w => rplace_any p h2 w
    rw [← h1] at HP
    have HP := hide HP
    have HX := hide hx
    clear hx e h1 h2 hp hsec
    go_enter Tryz.func36, Tryz.ntmps36
    go_wp2_with fail
    refine (rgood_any _ _).mono ?_
    rintro e w4 ⟨rfl, rfl⟩
    rw [HX.out]
    clear hW
    go_wp2
    obtain ⟨V0, hV0⟩ : ∃ v, w4.drew = v := ⟨_, rfl⟩
    have v0 : Has V0 w.heap.size 23 (bv h) 32 := by rw [← hV0]; exact g0
    have v1 : Has V0 (w.heap.size + 1) 23 (fun _ => .int .u8 0) 32 := by rw [← hV0]; exact g1
    have vb : Below w.heap.size w V0 := by rw [← hV0]; exact ⟨gb.os, gb.tape, gb.output, gb.size, gb.block⟩
    have HV0 := hide hV0
    clear hV0 g0 g1 gb
    refine wp_region_noPanic ?_
    refine wp_region_held_drew (S := fun wx => Has wx w.heap.size 23 (bv h) 32) (by kernel_rfl) (by rw [HV0.out]; exact v0) (fun hHeld => ?_)
    rw [HV0.out] at hHeld ⊢
    refine takeH 0 (some 10) (.agg (tabv (bv h) 32)) rfl rfl (by kernel_rfl) (by kernel_rfl) (by kernel_rfl) (fun _ _ _ h => h) (by rfl) (fun wx hw => run_load_part wx 23 _ rfl w.heap.size 0 rfl 23 _ 32 32 _ hw (by omega) Tryz.underlying23 rfl info26 (bv h) (fun i hi => by rw [Nat.zero_add])) hHeld ?_
    simp only [Act.put, List.setIfInBounds_toArray, List.set_cons_zero, List.set_cons_succ]
    refine takeH 1 (some 11) (.int .i64 x) rfl rfl (by kernel_rfl) (by kernel_rfl) (by kernel_rfl) (fun _ _ _ h => h) (by rfl) (fun w hw => by first | rfl | (go_simp; done) | (go_simp; rfl)) hHeld ?_
    simp only [Act.put, List.setIfInBounds_toArray, List.set_cons_zero, List.set_cons_succ]
    refine wpAnyH_ready (rs := [2]) (by kernel_rfl) (by simp) (AllReadyH.cons rfl (fun K hK => ?_) AllReadyH.nil)
    rw [if_pos (by rfl)]
    go_simp
    refine (HP.out _).mono ?_
    rintro e w5 ⟨rfl, hb5⟩
    try go_wp2_with fail
    refine hK.out _ _ (hHeld.below hb5 hHeld.lt) (fun hH => ?_)
    clear hK K hHeld
    have hHeld := hH
    clear hH
    have u1 := v1.below hb5 v1.lt
    have ub := vb.trans (hb5.mono vb.size)
    refine wpAnyH_ready (rs := [3]) (by kernel_rfl) (by simp) (AllReadyH.cons rfl (fun K hK => ?_) AllReadyH.nil)
    rw [if_pos (by rfl)]
    go_simp
    refine (rdown_any n h p 48 (by omega) _).mono ?_
    rintro e w6 ⟨rfl, hb6⟩
    try go_wp2_with fail
    refine hK.out _ _ (hHeld.below hb6 hHeld.lt) (fun hH => ?_)
    clear hK K hHeld
    have hHeld := hH
    clear hH
    have t1 := u1.below hb6 u1.lt
    have tb := ub.trans (hb6.mono ub.size)
    refine wpAnyH_ready (rs := [4]) (by kernel_rfl) (by simp) (AllReadyH.cons rfl (fun K hK => ?_) AllReadyH.nil)
    rw [if_pos (by rfl)]
    refine wp_store_partS 23 _ _ rfl rfl (w.heap.size + 1) 0 (bv (goDown step p 48 0 h)) 32 rfl rfl 23 _ 32 t1 (by omega) info26 (fun _ _ => rfl) (bv (goDown step p 48 0 h)) (fun i hi => by unfold splice; rw [if_pos (by omega), Nat.sub_zero]) ?_
    refine hK.out _ _ (hHeld.row_other _ _ (by omega)) (fun hH => ?_)
    clear hK K hHeld
    have hHeld := hH
    clear hH
    refine takeH 5 (some 5) (.int .i64 0) rfl rfl (by kernel_rfl) (by kernel_rfl) (by kernel_rfl) (fun _ _ _ h => h) (by rfl) (fun w hw => by first | rfl | (go_simp; done) | (go_simp; rfl)) hHeld ?_
    simp only [Act.put, List.setIfInBounds_toArray, List.set_cons_zero, List.set_cons_succ]
    refine ⟨by kernel_rfl, ?_⟩
    refine NoPanic.normal ?_
    go_wp2
    exact bodyPost_ret (resCT _ (w.heap.size + 1) _ _ 0 4 5 (t1.row _ (bv (goDown step p 48 0 h)) rfl) rfl rfl _ rfl) rfl ⟨rfl, below_setRow tb (by omega) _⟩
def deriveA (h : Nat → UInt8) (a c : Int) : (Nat → UInt8) × Int :=
  if isN a = true ∧ isN c = true then (if place a.toNat / 2 ^ lvl (place a.toNat) 48 = place c.toNat / 2 ^ lvl (place a.toNat) 48 then (deriveOf step h a.toNat c.toNat, 0) else (fun _ => 0, 5)) else (fun _ => 0, 90)
end Go.Proofs.YtmmcoedgoekhgaaGreatDoor
/-
  What the row's list gives: the two tables; a hash among the arguments.
-/
namespace Go.Proofs.YtmmcoedgoekhgaaGreatDoor
open Go.ChangeShapes Go.WideShapes Go.ChangeAt Go.RowKit S
set_option maxRecDepth 20000
/-- The numbers as they are. -/
def num : Num := ⟨fun b => (b.toNat : Int), fun _ => rfl⟩
theorem gRounds : Tryz.prog.globalNamed "escrow/hash.rounds" = some 1 := by kernel_rfl
theorem gFirst : Tryz.prog.globalNamed "escrow/hash.first" = some 0 := by kernel_rfl
theorem tRounds : (Tryz.prog.globals[1]?).map (·.type) = some 229 := by kernel_rfl
theorem tFirst : (Tryz.prog.globals[0]?).map (·.type) = some 195 := by kernel_rfl
theorem cells59 : Tryz.prog.cellsOf 229 = 64 := by kernel_rfl
theorem cells43 : Tryz.prog.cellsOf 195 = 8 := by kernel_rfl
theorem cells42 : Tryz.prog.cellsOf 194 = 1 := by kernel_rfl
theorem cells5 : Tryz.prog.cellsOf 5 = 1 := by kernel_rfl
theorem cells26 : Tryz.prog.cellsOf 23 = 32 := by kernel_rfl
def kInts : List Int := Ks.map fun b => (b.toNat : Int)
def fInts : List Int := Fs.map fun b => (b.toNat : Int)
theorem laid_glob {W : World} (h : laidMetH Tryz.prog Rows.danceRawRow.laid W) (h2 : 2 ≤ W.heap.size) : Glob num W := by
  have h' : laidMet Tryz.prog Rows.danceRawRow.laid W := h
  obtain ⟨ps, ⟨g0, t0, cs0, f0, p0, q0, hg0, ht0, hv0, hd0, ⟨g1, t1, cs1, f1, p1, q1, hg1, ht1, hv1, hd1, _, _⟩, _⟩, _, _⟩ := h'
  obtain rfl := Option.some.inj (gRounds.symm.trans hg0)
  obtain rfl := Option.some.inj (gFirst.symm.trans hg1)
  obtain rfl := Option.some.inj (tRounds.symm.trans ht0)
  obtain rfl := Option.some.inj (tFirst.symm.trans ht1)
  have e0 := Lib.cells_of_tab Tryz.underlying229 Tryz.underlying194 cells42 cells59 (zs := kInts) hd0
  have e1 := Lib.cells_of_tab Tryz.underlying195 Tryz.underlying194 cells42 cells43 (zs := fInts) hd1
  refine ⟨fun i hi => ?_, fun i hi => ?_, h2⟩
  · have hc := World.var?_cell hg0 hv0 i
    rw [hc]
    have hg : cs0[i]? = cs0.toList[i]? := by rw [Array.getElem?_toList]
    rw [hg, e0]
    unfold kInts K wv num
    have hl : i < Ks.length := hi
    rw [List.getElem?_map, List.getElem?_map, List.getElem?_eq_getElem hl]
    show some (Value.int .u32 ((Ks[i].toNat : Nat) : Int)) = some (.int .u32 (((Ks.getD i 0#32).toNat : Nat) : Int))
    rw [List.getD_eq_getElem?_getD, List.getElem?_eq_getElem hl]
    rfl
  · have hc := World.var?_cell hg1 hv1 i
    rw [hc]
    have hg : cs1[i]? = cs1.toList[i]? := by rw [Array.getElem?_toList]
    rw [hg, e1]
    unfold fInts first wv num
    have hl : i < Fs.length := hi
    rw [List.getElem?_map, List.getElem?_map, List.getElem?_eq_getElem hl]
    show some (Value.int .u32 ((Fs[i].toNat : Nat) : Int)) = some (.int .u32 (((Fs.getD i 0#32).toNat : Nat) : Int))
    rw [List.getD_eq_getElem?_getD, List.getElem?_eq_getElem hl]
    rfl
/-- A world in which the tables stand has two blocks. -/
theorem laid_two {W : World} (h : laidMetH Tryz.prog Rows.danceRawRow.laid W) : 2 ≤ W.heap.size := by
  have h' : laidMet Tryz.prog Rows.danceRawRow.laid W := h
  obtain ⟨ps, ⟨g0, t0, cs0, f0, p0, q0, hg0, ht0, hv0, hd0, _, _⟩, _, _⟩ := h'
  obtain rfl := Option.some.inj (gRounds.symm.trans hg0)
  obtain rfl := Option.some.inj (tRounds.symm.trans ht0)
  have e0 := Lib.cells_of_tab Tryz.underlying229 Tryz.underlying194 cells42 cells59 (zs := kInts) hd0
  have hc := World.var?_cell hg0 hv0 0
  have hg : cs0[0]? = cs0.toList[0]? := by rw [Array.getElem?_toList]
  rw [hg, e0] at hc
  have := block_lt_of_cell hc
  simp only at this
  omega
end Go.Proofs.YtmmcoedgoekhgaaGreatDoor
/-
  A world for the rows' witnesses: the two tables laid.
-/
namespace Go.Proofs.YtmmcoedgoekhgaaGreatDoor
set_option maxRecDepth 20000
open Go.RowKit S
def layCells (cs : Array Value) (o : Obj) : Obj := match o with
  | .cells _ t frozen => .cells cs t frozen
  | o => o
def laidWorldOf (w : World) : World :=
  { w with heap := (w.heap.modify 0 (layCells (tabv (wv num first) 8))).modify 1 (layCells (tabv (wv num K) 64)) }
end Go.Proofs.YtmmcoedgoekhgaaGreatDoor
