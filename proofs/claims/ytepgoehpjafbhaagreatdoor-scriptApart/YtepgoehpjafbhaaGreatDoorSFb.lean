/-
  strconv.FormatInt whatever its table holds: formatBase10 at a row of any size.
-/
import Derived.Shelf.LaysM
import Derived.Shelf.RegionOpenPlain
import Derived.Lib.Walk
import Derived.Lib.ItoaWalk
import Derived.WalkKit
import Derived.RegionTactic
import Derived.BigCall
import Derived.BigGuard
import Derived.CellFam
namespace Go.Proofs.YtepgoehpjafbhaaGreatDoor
open Go.Shelf Go.RowKit Go.Sort Go.Lib
variable {P : Program} {ρ : Ren}
set_option linter.unusedVariables false
set_option linter.unusedSimpArgs false
/-- Two digits of x at m. -/
def two (m x : Nat) (d : Array UInt8) : Array UInt8 := (d.setIfInBounds (m + 1) (sm (x % 100 * 2 + 1))).setIfInBounds m (sm (x % 100 * 2))
theorem two_size (m x : Nat) (d : Array UInt8) : (two m x d).size = d.size := by simp [two]
def one (x : Nat) (d : Array UInt8) : Array UInt8 := d.setIfInBounds 0 (UInt8.ofNat (48 + x))
theorem one_size (x : Nat) (d : Array UInt8) : (one x d).size = d.size := by simp [one]
/-- The last up to seven digits. -/
def ends : Nat → Nat → Array UInt8 → Array UInt8
  | 1, x, d => one x d
  | 2, x, d => two 0 x d
  | 3, x, d => one (x / 100) (two 1 x d)
  | 4, x, d => two 0 (x / 100) (two 2 x d)
  | 5, x, d => one (x / 100 / 100) (two 1 (x / 100) (two 3 x d))
  | 6, x, d => two 0 (x / 100 / 100) (two 2 (x / 100) (two 4 x d))
  | 7, x, d => one (x / 100 / 100 / 100) (two 1 (x / 100 / 100) (two 3 (x / 100) (two 5 x d)))
  | _, _, d => d
theorem ends_size (r x : Nat) (d : Array UInt8) : (ends r x d).size = d.size := by
  unfold ends
  split <;> simp only [two_size, one_size]
def rowOf : Nat → Nat → Nat → Array UInt8 → Array UInt8
  | 0, r, v, d => ends r (v % 4294967296) d
  | k + 1, r, v, d => rowOf k r (v / 100000000) (two (8 * k + r) (v / 100 / 100 / 100) (two (8 * k + r + 2) (v / 100 / 100) (two (8 * k + r + 4) (v / 100) (two (8 * k + r + 6) v d))))
theorem rowOf_succ (k r v : Nat) (d : Array UInt8) : rowOf (k + 1) r v d = rowOf k r (v / 100000000) (two (8 * k + r) (v / 100 / 100 / 100) (two (8 * k + r + 2) (v / 100 / 100) (two (8 * k + r + 4) (v / 100) (two (8 * k + r + 6) v d)))) := rfl
theorem rowOf_size : ∀ (k r v : Nat) (d : Array UInt8), (rowOf k r v d).size = d.size
  | 0, r, v, d => ends_size _ _ _
  | k + 1, r, v, d => by unfold rowOf; rw [rowOf_size k]; simp only [two_size]
/-- What stays through the loop: k rounds more, then r digits. -/
structure Ro (z u : Nat) (d : Array UInt8) (k r v : Nat) (dk : Array UInt8) : Prop where
  same : rowOf (z / 8) (z % 8) u d = rowOf k r v dk
  sz : dk.size = z
  le : 8 * k + r ≤ z
  lt : r < 8
  bd : v < 18446744073709551616
theorem Ro.start (u : Nat) (d : Array UInt8) (hu : u < 18446744073709551616) : Ro d.size u d (d.size / 8) (d.size % 8) u d := ⟨rfl, rfl, by omega, by omega, hu⟩
/-- The part of a round that stands behind the stores of pairs. -/
structure Wo (z : Nat) (w : World) (blk off : Nat) (W : World) (n : Nat) (dk : Array UInt8) : Prop where
  eq : W = (putRow (fun (b : UInt8) => Value.int .u8 (b.toNat : Int)) w blk off dk).drewN n
  sz : dk.size = z

set_option maxHeartbeats 12800000 in
set_option maxRecDepth 100000 in
theorem format10_any (L : Lays.n285 P ρ) (blk off cap : Nat) (u : Nat) (d : Array UInt8) (w : World) (hH : Holds (fun (b : UInt8) => Value.int .u8 (b.toNat : Int)) w blk off d) (hu : u < 18446744073709551616) (hsz : d.size < 4611686018427387904) :
    Calls P (ρ.f 285) #[.slice (some ⟨blk, off, none⟩) d.size cap, .int .u64 u] w fun e w' =>
      e = .returned (.tuple #[]) ∧ ∃ n : Nat, w' = (putRow (fun (b : UInt8) => Value.int .u8 (b.toNat : Int)) w blk off (rowOf (d.size / 8) (d.size % 8) u d)).drewN n := by
  have mixed := L.mixed
  have t37 := L.t37; have a37 := L.a37; have z37 := L.z37; have v37 := L.v37
  have t53 := L.t53; have a53 := L.a53; have z53 := L.z53; have v53 := L.v53
  have t3 := L.t3; have a3 := L.a3; have z3 := L.z3; have v3 := L.v3
  have t4 := L.t4; have a4 := L.a4; have z4 := L.z4; have v4 := L.v4
  have t51 := L.t51; have a51 := L.a51; have z51 := L.z51; have v51 := L.v51
  have t9 := L.t9; have a9 := L.a9; have z9 := L.z9; have v9 := L.v9
  have t5 := L.t5; have a5 := L.a5; have z5 := L.z5; have v5 := L.v5
  have t0 := L.t0; have a0 := L.a0; have z0 := L.z0; have v0 := L.v0
  go_enter L.f285, Body.n285_ntmps ρ
  go_name_bytes SM hSM
  have eSM : SM = Lib.smalls := by rw [← hSM]; decide +kernel
  subst eSM
  clear hSM
  obtain ⟨R, hR⟩ : ∃ R, rowOf (d.size / 8) (d.size % 8) u d = R := ⟨_, rfl⟩
  rw [hR]
  have hS := Ro.start u d hu
  have HR := Lib.hid hR
  have HS := Lib.hid hS
  clear hR hS
  go_wp2
  go_loopw [1, 4] (fun vu vn wr => ∃ (k r v n : Nat) (dk : Array UInt8), vu = .int .u64 v ∧ vn = .int .i64 ((8 * k + r : Nat) : Int) ∧ Hid (Wo d.size w blk off wr n dk) ∧ Hid (Ro d.size u d k r v dk)) (fun _ vn _ => (RowKit.intOf vn).toNat)
  case atStart => exact ⟨d.size / 8, d.size % 8, u, 0, d, rfl, by rw [show 8 * (d.size / 8) + d.size % 8 = d.size by omega], Lib.hid ⟨(putRow_self _ _ _ _ _ hH).symm, rfl⟩, HS⟩
  case round =>
    obtain ⟨k, r, v, n, dk0, rfl, rfl, AW0, HI⟩ := hrel
    rename World => W0
    have AH := Lib.hid hH
    have hr8 := HI.out.lt
    have hle := HI.out.le
    have hv64 := HI.out.bd
    clear hH HS
    have hH0 : Holds (fun (b : UInt8) => Value.int .u8 (b.toNat : Int)) W0 blk off dk0 := by rw [AW0.out.eq]; exact holds_putRow _ w blk off d dk0 AH.out AW0.out.sz
    obtain ⟨G0, hG0⟩ : ∃ G : Nat → Int, ∀ t, G t = (dk0[t]!.toNat : Int) := ⟨_, fun _ => rfl⟩
    have hs0 := AW0.out.sz
    have hc0 : ∀ t, t < d.size → W0.cell? ⟨blk, off + t, none⟩ = some (.int .u8 (G0 t)) := fun t ht => by rw [hG0]; exact (hH0 t (by omega)).1
    have hf0 : ∀ t, t < d.size → W0.frozen? ⟨blk, off + t, none⟩ = false := fun t ht => (hH0 t (by omega)).2
    clear hG0 hH0
    cases k with
    | succ k =>
      have hD0 : Hid (rowOf (d.size / 8) (d.size % 8) u d = rowOf (k + 1) r v dk0) := Lib.hid HI.out.same
      clear HI
      obtain ⟨m, hm⟩ : ∃ m, m = 8 * k + r := ⟨_, rfl⟩
      have hnd : 8 * (k + 1) + r = m + 8 := by omega
      rw [hnd]
      rw [hnd] at hle
      have HM := Lib.hid hm
      clear hnd hm
      go_wp2
      go_name_slot 9 x0 hx0
      have hxe0 : x0 = ((v % 100 * 2 : Nat) : Int) := by omega
      have hXa0 : ∀ w, (Instr.index (ρ.t 9) (.string Lib.smalls) (.int .u32 (x0 + 1))).run P w = .ok (.int .u8 ((sm (v % 100 * 2 + 1)).toNat : Int)) w := idx_smalls (ρ.t 9) L.t9 .u32 _ _ (by omega) (by omega)
      have hXb0 : ∀ w, (Instr.index (ρ.t 9) (.string Lib.smalls) (.int .u32 x0)).run P w = .ok (.int .u8 ((sm (v % 100 * 2)).toNat : Int)) w := idx_smalls (ρ.t 9) L.t9 .u32 _ _ (by omega) (by omega)
      have hlo0 : 0 ≤ x0 := by omega
      have hhi0 : x0 ≤ 198 := by omega
      clear hx0 hxe0
      go_region_o
      go_wp2
      go_name_world W1 hW1
      have aw1 : Wo d.size w blk off W1 (n + 0 + 1) (two (m + 6) (v) dk0) := ⟨by rw [← hW1, AW0.out.eq]; exact store2_world w blk off dk0 (n + 0) (m + 6 + 1) (m + 6) _ _ (by omega) (by omega), by rw [two_size]; exact AW0.out.sz⟩
      have AW1 := Lib.hid aw1
      generalize hdk1 : two (m + 6) (v) dk0 = dk1 at AW1
      have HD1 := Lib.hid hdk1
      clear aw1 hdk1 hW1 hc0 hf0 hXa0 hXb0 hs0
      have hH1 : Holds (fun (b : UInt8) => Value.int .u8 (b.toNat : Int)) W1 blk off dk1 := by rw [AW1.out.eq]; exact holds_putRow _ w blk off d dk1 AH.out AW1.out.sz
      obtain ⟨G1, hG1⟩ : ∃ G : Nat → Int, ∀ t, G t = (dk1[t]!.toNat : Int) := ⟨_, fun _ => rfl⟩
      have hs1 := AW1.out.sz
      have hc1 : ∀ t, t < d.size → W1.cell? ⟨blk, off + t, none⟩ = some (.int .u8 (G1 t)) := fun t ht => by rw [hG1]; exact (hH1 t (by omega)).1
      have hf1 : ∀ t, t < d.size → W1.frozen? ⟨blk, off + t, none⟩ = false := fun t ht => (hH1 t (by omega)).2
      clear hG1 hH1
      go_name_slot 8 x1 hx1
      have hxe1 : x1 = ((v / 100 % 100 * 2 : Nat) : Int) := by omega
      have hXa1 : ∀ w, (Instr.index (ρ.t 9) (.string Lib.smalls) (.int .u32 (x1 + 1))).run P w = .ok (.int .u8 ((sm (v / 100 % 100 * 2 + 1)).toNat : Int)) w := idx_smalls (ρ.t 9) L.t9 .u32 _ _ (by omega) (by omega)
      have hXb1 : ∀ w, (Instr.index (ρ.t 9) (.string Lib.smalls) (.int .u32 x1)).run P w = .ok (.int .u8 ((sm (v / 100 % 100 * 2)).toNat : Int)) w := idx_smalls (ρ.t 9) L.t9 .u32 _ _ (by omega) (by omega)
      have hlo1 : 0 ≤ x1 := by omega
      have hhi1 : x1 ≤ 198 := by omega
      clear hx1 hxe1
      go_region_o
      go_wp2
      go_name_world W2 hW2
      have aw2 : Wo d.size w blk off W2 (n + 1 + 1) (two (m + 4) (v / 100) dk1) := ⟨by rw [← hW2, AW1.out.eq]; exact store2_world w blk off dk1 (n + 1) (m + 4 + 1) (m + 4) _ _ (by omega) (by omega), by rw [two_size]; exact AW1.out.sz⟩
      have AW2 := Lib.hid aw2
      generalize hdk2 : two (m + 4) (v / 100) dk1 = dk2 at AW2
      have HD2 := Lib.hid hdk2
      clear aw2 hdk2 hW2 hc1 hf1 hXa1 hXb1 hs1
      have hH2 : Holds (fun (b : UInt8) => Value.int .u8 (b.toNat : Int)) W2 blk off dk2 := by rw [AW2.out.eq]; exact holds_putRow _ w blk off d dk2 AH.out AW2.out.sz
      obtain ⟨G2, hG2⟩ : ∃ G : Nat → Int, ∀ t, G t = (dk2[t]!.toNat : Int) := ⟨_, fun _ => rfl⟩
      have hs2 := AW2.out.sz
      have hc2 : ∀ t, t < d.size → W2.cell? ⟨blk, off + t, none⟩ = some (.int .u8 (G2 t)) := fun t ht => by rw [hG2]; exact (hH2 t (by omega)).1
      have hf2 : ∀ t, t < d.size → W2.frozen? ⟨blk, off + t, none⟩ = false := fun t ht => (hH2 t (by omega)).2
      clear hG2 hH2
      go_name_slot 11 x2 hx2
      have hxe2 : x2 = ((v / 100 / 100 % 100 * 2 : Nat) : Int) := by omega
      have hXa2 : ∀ w, (Instr.index (ρ.t 9) (.string Lib.smalls) (.int .u32 (x2 + 1))).run P w = .ok (.int .u8 ((sm (v / 100 / 100 % 100 * 2 + 1)).toNat : Int)) w := idx_smalls (ρ.t 9) L.t9 .u32 _ _ (by omega) (by omega)
      have hXb2 : ∀ w, (Instr.index (ρ.t 9) (.string Lib.smalls) (.int .u32 x2)).run P w = .ok (.int .u8 ((sm (v / 100 / 100 % 100 * 2)).toNat : Int)) w := idx_smalls (ρ.t 9) L.t9 .u32 _ _ (by omega) (by omega)
      have hlo2 : 0 ≤ x2 := by omega
      have hhi2 : x2 ≤ 198 := by omega
      clear hx2 hxe2
      go_region_o
      go_wp2
      go_name_world W3 hW3
      have aw3 : Wo d.size w blk off W3 (n + 2 + 1) (two (m + 2) (v / 100 / 100) dk2) := ⟨by rw [← hW3, AW2.out.eq]; exact store2_world w blk off dk2 (n + 2) (m + 2 + 1) (m + 2) _ _ (by omega) (by omega), by rw [two_size]; exact AW2.out.sz⟩
      have AW3 := Lib.hid aw3
      generalize hdk3 : two (m + 2) (v / 100 / 100) dk2 = dk3 at AW3
      have HD3 := Lib.hid hdk3
      clear aw3 hdk3 hW3 hc2 hf2 hXa2 hXb2 hs2
      have hH3 : Holds (fun (b : UInt8) => Value.int .u8 (b.toNat : Int)) W3 blk off dk3 := by rw [AW3.out.eq]; exact holds_putRow _ w blk off d dk3 AH.out AW3.out.sz
      obtain ⟨G3, hG3⟩ : ∃ G : Nat → Int, ∀ t, G t = (dk3[t]!.toNat : Int) := ⟨_, fun _ => rfl⟩
      have hs3 := AW3.out.sz
      have hc3 : ∀ t, t < d.size → W3.cell? ⟨blk, off + t, none⟩ = some (.int .u8 (G3 t)) := fun t ht => by rw [hG3]; exact (hH3 t (by omega)).1
      have hf3 : ∀ t, t < d.size → W3.frozen? ⟨blk, off + t, none⟩ = false := fun t ht => (hH3 t (by omega)).2
      clear hG3 hH3
      go_name_slot 10 x3 hx3
      have hxe3 : x3 = ((v / 100 / 100 / 100 % 100 * 2 : Nat) : Int) := by omega
      have hXa3 : ∀ w, (Instr.index (ρ.t 9) (.string Lib.smalls) (.int .u32 (x3 + 1))).run P w = .ok (.int .u8 ((sm (v / 100 / 100 / 100 % 100 * 2 + 1)).toNat : Int)) w := idx_smalls (ρ.t 9) L.t9 .u32 _ _ (by omega) (by omega)
      have hXb3 : ∀ w, (Instr.index (ρ.t 9) (.string Lib.smalls) (.int .u32 x3)).run P w = .ok (.int .u8 ((sm (v / 100 / 100 / 100 % 100 * 2)).toNat : Int)) w := idx_smalls (ρ.t 9) L.t9 .u32 _ _ (by omega) (by omega)
      have hlo3 : 0 ≤ x3 := by omega
      have hhi3 : x3 ≤ 198 := by omega
      clear hx3 hxe3
      go_region_o
      go_wp2
      go_roundw
      case rel =>
        refine ⟨k, r, v / 100000000, n + 3 + 1, two m (v / 100 / 100 / 100) dk3, by first | go_num | (congr 1; omega), by rw [← HM.out], Lib.hid ⟨by rw [AW3.out.eq]; exact store2_world w blk off dk3 (n + 3) (m + 1) m _ _ (by omega) (by omega), by rw [two_size]; exact AW3.out.sz⟩, Lib.hid ⟨?_, by rw [two_size]; exact AW3.out.sz, by have := HM.out; omega, hr8, by omega⟩⟩
        rw [hD0.out]
        rw [rowOf_succ, ← HM.out, ← HD3.out, ← HD2.out, ← HD1.out]
      case measure => simp [RowKit.intOf]; omega
    | zero =>
      have hR0 : Hid (R = ends r (v % 4294967296) dk0) := Lib.hid (by rw [← HR.out, HI.out.same]; rfl)
      clear HI
      obtain ⟨x, hx⟩ : ∃ x, x = v % 4294967296 := ⟨_, rfl⟩
      rw [← hx] at hR0
      have hx32 : x < 4294967296 := by omega
      have hwr : IntKind.u32.wrap (v : Int) = (x : Int) := by rw [IntKind.wrap_u32]; omega
      clear hx
      rw [show 8 * 0 + r = r by omega]
      rw [show 8 * 0 + r = r by omega] at hle
      have hc8 : r = 0 ∨ r = 1 ∨ r = 2 ∨ r = 3 ∨ r = 4 ∨ r = 5 ∨ r = 6 ∨ r = 7 := by omega
      rcases hc8 with rfl | rfl | rfl | rfl | rfl | rfl | rfl | rfl
      · -- 0
        go_wp2
        go_end0
        exact ⟨rfl, n, by rw [hR0.out]; exact AW0.out.eq⟩
      · -- 1
        go_wp2
        go_end0
        exact ⟨rfl, n, by rw [hR0.out, AW0.out.eq]; exact store1_world0 w blk off dk0 n _ x (by omega) (by omega)⟩
      · -- 2
        go_wp2
        go_name_slot 16 x0 hx0
        have hxe0 : x0 = ((x % 100 * 2 : Nat) : Int) := by omega
        have hXa0 : ∀ w, (Instr.index (ρ.t 9) (.string Lib.smalls) (.int .u32 (x0 + 1))).run P w = .ok (.int .u8 ((sm (x % 100 * 2 + 1)).toNat : Int)) w := idx_smalls (ρ.t 9) L.t9 .u32 _ _ (by omega) (by omega)
        have hXb0 : ∀ w, (Instr.index (ρ.t 9) (.string Lib.smalls) (.int .u32 x0)).run P w = .ok (.int .u8 ((sm (x % 100 * 2)).toNat : Int)) w := idx_smalls (ρ.t 9) L.t9 .u32 _ _ (by omega) (by omega)
        have hlo0 : 0 ≤ x0 := by omega
        have hhi0 : x0 ≤ 198 := by omega
        clear hx0 hxe0
        go_region_o
        go_wp2
        go_end0
        exact ⟨rfl, n + 0 + 1, by rw [hR0.out, AW0.out.eq]; unfold ends; exact store2_world w blk off dk0 (n + 0) (0 + 1) (0) _ _ (by omega) (by omega)⟩
      · -- 3
        go_wp2
        go_name_slot 16 x0 hx0
        have hxe0 : x0 = ((x % 100 * 2 : Nat) : Int) := by omega
        have hXa0 : ∀ w, (Instr.index (ρ.t 9) (.string Lib.smalls) (.int .u32 (x0 + 1))).run P w = .ok (.int .u8 ((sm (x % 100 * 2 + 1)).toNat : Int)) w := idx_smalls (ρ.t 9) L.t9 .u32 _ _ (by omega) (by omega)
        have hXb0 : ∀ w, (Instr.index (ρ.t 9) (.string Lib.smalls) (.int .u32 x0)).run P w = .ok (.int .u8 ((sm (x % 100 * 2)).toNat : Int)) w := idx_smalls (ρ.t 9) L.t9 .u32 _ _ (by omega) (by omega)
        have hlo0 : 0 ≤ x0 := by omega
        have hhi0 : x0 ≤ 198 := by omega
        clear hx0 hxe0
        go_region_o
        go_wp2
        go_end0
        exact ⟨rfl, n + 0 + 1, by rw [AW0.out.eq, hR0.out]; unfold ends; exact store21_world w blk off dk0 (n + 0) (1 + 1) (1) _ _ _ (x / 100) (by omega) (by omega) (by omega)⟩
      · -- 4
        go_wp2
        go_name_slot 15 x0 hx0
        have hxe0 : x0 = ((x % 100 * 2 : Nat) : Int) := by omega
        have hXa0 : ∀ w, (Instr.index (ρ.t 9) (.string Lib.smalls) (.int .u32 (x0 + 1))).run P w = .ok (.int .u8 ((sm (x % 100 * 2 + 1)).toNat : Int)) w := idx_smalls (ρ.t 9) L.t9 .u32 _ _ (by omega) (by omega)
        have hXb0 : ∀ w, (Instr.index (ρ.t 9) (.string Lib.smalls) (.int .u32 x0)).run P w = .ok (.int .u8 ((sm (x % 100 * 2)).toNat : Int)) w := idx_smalls (ρ.t 9) L.t9 .u32 _ _ (by omega) (by omega)
        have hlo0 : 0 ≤ x0 := by omega
        have hhi0 : x0 ≤ 198 := by omega
        clear hx0 hxe0
        go_region_o
        go_wp2
        go_name_world W1 hW1
        have aw1 : Wo d.size w blk off W1 (n + 0 + 1) (two (2) (x) dk0) := ⟨by rw [← hW1, AW0.out.eq]; exact store2_world w blk off dk0 (n + 0) (2 + 1) (2) _ _ (by omega) (by omega), by rw [two_size]; exact AW0.out.sz⟩
        have AW1 := Lib.hid aw1
        generalize hdk1 : two (2) (x) dk0 = dk1 at AW1
        have HD1 := Lib.hid hdk1
        clear aw1 hdk1 hW1 hc0 hf0 hXa0 hXb0 hs0
        have hH1 : Holds (fun (b : UInt8) => Value.int .u8 (b.toNat : Int)) W1 blk off dk1 := by rw [AW1.out.eq]; exact holds_putRow _ w blk off d dk1 AH.out AW1.out.sz
        obtain ⟨G1, hG1⟩ : ∃ G : Nat → Int, ∀ t, G t = (dk1[t]!.toNat : Int) := ⟨_, fun _ => rfl⟩
        have hs1 := AW1.out.sz
        have hc1 : ∀ t, t < d.size → W1.cell? ⟨blk, off + t, none⟩ = some (.int .u8 (G1 t)) := fun t ht => by rw [hG1]; exact (hH1 t (by omega)).1
        have hf1 : ∀ t, t < d.size → W1.frozen? ⟨blk, off + t, none⟩ = false := fun t ht => (hH1 t (by omega)).2
        clear hG1 hH1
        go_name_slot 14 x1 hx1
        have hxe1 : x1 = ((x / 100 % 100 * 2 : Nat) : Int) := by omega
        have hXa1 : ∀ w, (Instr.index (ρ.t 9) (.string Lib.smalls) (.int .u32 (x1 + 1))).run P w = .ok (.int .u8 ((sm (x / 100 % 100 * 2 + 1)).toNat : Int)) w := idx_smalls (ρ.t 9) L.t9 .u32 _ _ (by omega) (by omega)
        have hXb1 : ∀ w, (Instr.index (ρ.t 9) (.string Lib.smalls) (.int .u32 x1)).run P w = .ok (.int .u8 ((sm (x / 100 % 100 * 2)).toNat : Int)) w := idx_smalls (ρ.t 9) L.t9 .u32 _ _ (by omega) (by omega)
        have hlo1 : 0 ≤ x1 := by omega
        have hhi1 : x1 ≤ 198 := by omega
        clear hx1 hxe1
        go_region_o
        go_wp2
        go_end0
        exact ⟨rfl, n + 1 + 1, by rw [AW1.out.eq, hR0.out]; unfold ends; simp only [HD1.out]; exact store2_world w blk off dk1 (n + 1) (0 + 1) (0) _ _ (by omega) (by omega)⟩
      · -- 5
        go_wp2
        go_name_slot 15 x0 hx0
        have hxe0 : x0 = ((x % 100 * 2 : Nat) : Int) := by omega
        have hXa0 : ∀ w, (Instr.index (ρ.t 9) (.string Lib.smalls) (.int .u32 (x0 + 1))).run P w = .ok (.int .u8 ((sm (x % 100 * 2 + 1)).toNat : Int)) w := idx_smalls (ρ.t 9) L.t9 .u32 _ _ (by omega) (by omega)
        have hXb0 : ∀ w, (Instr.index (ρ.t 9) (.string Lib.smalls) (.int .u32 x0)).run P w = .ok (.int .u8 ((sm (x % 100 * 2)).toNat : Int)) w := idx_smalls (ρ.t 9) L.t9 .u32 _ _ (by omega) (by omega)
        have hlo0 : 0 ≤ x0 := by omega
        have hhi0 : x0 ≤ 198 := by omega
        clear hx0 hxe0
        go_region_o
        go_wp2
        go_name_world W1 hW1
        have aw1 : Wo d.size w blk off W1 (n + 0 + 1) (two (3) (x) dk0) := ⟨by rw [← hW1, AW0.out.eq]; exact store2_world w blk off dk0 (n + 0) (3 + 1) (3) _ _ (by omega) (by omega), by rw [two_size]; exact AW0.out.sz⟩
        have AW1 := Lib.hid aw1
        generalize hdk1 : two (3) (x) dk0 = dk1 at AW1
        have HD1 := Lib.hid hdk1
        clear aw1 hdk1 hW1 hc0 hf0 hXa0 hXb0 hs0
        have hH1 : Holds (fun (b : UInt8) => Value.int .u8 (b.toNat : Int)) W1 blk off dk1 := by rw [AW1.out.eq]; exact holds_putRow _ w blk off d dk1 AH.out AW1.out.sz
        obtain ⟨G1, hG1⟩ : ∃ G : Nat → Int, ∀ t, G t = (dk1[t]!.toNat : Int) := ⟨_, fun _ => rfl⟩
        have hs1 := AW1.out.sz
        have hc1 : ∀ t, t < d.size → W1.cell? ⟨blk, off + t, none⟩ = some (.int .u8 (G1 t)) := fun t ht => by rw [hG1]; exact (hH1 t (by omega)).1
        have hf1 : ∀ t, t < d.size → W1.frozen? ⟨blk, off + t, none⟩ = false := fun t ht => (hH1 t (by omega)).2
        clear hG1 hH1
        go_name_slot 14 x1 hx1
        have hxe1 : x1 = ((x / 100 % 100 * 2 : Nat) : Int) := by omega
        have hXa1 : ∀ w, (Instr.index (ρ.t 9) (.string Lib.smalls) (.int .u32 (x1 + 1))).run P w = .ok (.int .u8 ((sm (x / 100 % 100 * 2 + 1)).toNat : Int)) w := idx_smalls (ρ.t 9) L.t9 .u32 _ _ (by omega) (by omega)
        have hXb1 : ∀ w, (Instr.index (ρ.t 9) (.string Lib.smalls) (.int .u32 x1)).run P w = .ok (.int .u8 ((sm (x / 100 % 100 * 2)).toNat : Int)) w := idx_smalls (ρ.t 9) L.t9 .u32 _ _ (by omega) (by omega)
        have hlo1 : 0 ≤ x1 := by omega
        have hhi1 : x1 ≤ 198 := by omega
        clear hx1 hxe1
        go_region_o
        go_wp2
        go_end0
        exact ⟨rfl, n + 1 + 1, by rw [AW1.out.eq, hR0.out]; unfold ends; simp only [HD1.out]; exact store21_world w blk off dk1 (n + 1) (1 + 1) (1) _ _ _ (x / 100 / 100) (by omega) (by omega) (by omega)⟩
      · -- 6
        go_wp2
        go_name_slot 15 x0 hx0
        have hxe0 : x0 = ((x % 100 * 2 : Nat) : Int) := by omega
        have hXa0 : ∀ w, (Instr.index (ρ.t 9) (.string Lib.smalls) (.int .u32 (x0 + 1))).run P w = .ok (.int .u8 ((sm (x % 100 * 2 + 1)).toNat : Int)) w := idx_smalls (ρ.t 9) L.t9 .u32 _ _ (by omega) (by omega)
        have hXb0 : ∀ w, (Instr.index (ρ.t 9) (.string Lib.smalls) (.int .u32 x0)).run P w = .ok (.int .u8 ((sm (x % 100 * 2)).toNat : Int)) w := idx_smalls (ρ.t 9) L.t9 .u32 _ _ (by omega) (by omega)
        have hlo0 : 0 ≤ x0 := by omega
        have hhi0 : x0 ≤ 198 := by omega
        clear hx0 hxe0
        go_region_o
        go_wp2
        go_name_world W1 hW1
        have aw1 : Wo d.size w blk off W1 (n + 0 + 1) (two (4) (x) dk0) := ⟨by rw [← hW1, AW0.out.eq]; exact store2_world w blk off dk0 (n + 0) (4 + 1) (4) _ _ (by omega) (by omega), by rw [two_size]; exact AW0.out.sz⟩
        have AW1 := Lib.hid aw1
        generalize hdk1 : two (4) (x) dk0 = dk1 at AW1
        have HD1 := Lib.hid hdk1
        clear aw1 hdk1 hW1 hc0 hf0 hXa0 hXb0 hs0
        have hH1 : Holds (fun (b : UInt8) => Value.int .u8 (b.toNat : Int)) W1 blk off dk1 := by rw [AW1.out.eq]; exact holds_putRow _ w blk off d dk1 AH.out AW1.out.sz
        obtain ⟨G1, hG1⟩ : ∃ G : Nat → Int, ∀ t, G t = (dk1[t]!.toNat : Int) := ⟨_, fun _ => rfl⟩
        have hs1 := AW1.out.sz
        have hc1 : ∀ t, t < d.size → W1.cell? ⟨blk, off + t, none⟩ = some (.int .u8 (G1 t)) := fun t ht => by rw [hG1]; exact (hH1 t (by omega)).1
        have hf1 : ∀ t, t < d.size → W1.frozen? ⟨blk, off + t, none⟩ = false := fun t ht => (hH1 t (by omega)).2
        clear hG1 hH1
        go_name_slot 14 x1 hx1
        have hxe1 : x1 = ((x / 100 % 100 * 2 : Nat) : Int) := by omega
        have hXa1 : ∀ w, (Instr.index (ρ.t 9) (.string Lib.smalls) (.int .u32 (x1 + 1))).run P w = .ok (.int .u8 ((sm (x / 100 % 100 * 2 + 1)).toNat : Int)) w := idx_smalls (ρ.t 9) L.t9 .u32 _ _ (by omega) (by omega)
        have hXb1 : ∀ w, (Instr.index (ρ.t 9) (.string Lib.smalls) (.int .u32 x1)).run P w = .ok (.int .u8 ((sm (x / 100 % 100 * 2)).toNat : Int)) w := idx_smalls (ρ.t 9) L.t9 .u32 _ _ (by omega) (by omega)
        have hlo1 : 0 ≤ x1 := by omega
        have hhi1 : x1 ≤ 198 := by omega
        clear hx1 hxe1
        go_region_o
        go_wp2
        go_name_world W2 hW2
        have aw2 : Wo d.size w blk off W2 (n + 1 + 1) (two (2) (x / 100) dk1) := ⟨by rw [← hW2, AW1.out.eq]; exact store2_world w blk off dk1 (n + 1) (2 + 1) (2) _ _ (by omega) (by omega), by rw [two_size]; exact AW1.out.sz⟩
        have AW2 := Lib.hid aw2
        generalize hdk2 : two (2) (x / 100) dk1 = dk2 at AW2
        have HD2 := Lib.hid hdk2
        clear aw2 hdk2 hW2 hc1 hf1 hXa1 hXb1 hs1
        have hH2 : Holds (fun (b : UInt8) => Value.int .u8 (b.toNat : Int)) W2 blk off dk2 := by rw [AW2.out.eq]; exact holds_putRow _ w blk off d dk2 AH.out AW2.out.sz
        obtain ⟨G2, hG2⟩ : ∃ G : Nat → Int, ∀ t, G t = (dk2[t]!.toNat : Int) := ⟨_, fun _ => rfl⟩
        have hs2 := AW2.out.sz
        have hc2 : ∀ t, t < d.size → W2.cell? ⟨blk, off + t, none⟩ = some (.int .u8 (G2 t)) := fun t ht => by rw [hG2]; exact (hH2 t (by omega)).1
        have hf2 : ∀ t, t < d.size → W2.frozen? ⟨blk, off + t, none⟩ = false := fun t ht => (hH2 t (by omega)).2
        clear hG2 hH2
        go_name_slot 16 x2 hx2
        have hxe2 : x2 = ((x / 100 / 100 % 100 * 2 : Nat) : Int) := by omega
        have hXa2 : ∀ w, (Instr.index (ρ.t 9) (.string Lib.smalls) (.int .u32 (x2 + 1))).run P w = .ok (.int .u8 ((sm (x / 100 / 100 % 100 * 2 + 1)).toNat : Int)) w := idx_smalls (ρ.t 9) L.t9 .u32 _ _ (by omega) (by omega)
        have hXb2 : ∀ w, (Instr.index (ρ.t 9) (.string Lib.smalls) (.int .u32 x2)).run P w = .ok (.int .u8 ((sm (x / 100 / 100 % 100 * 2)).toNat : Int)) w := idx_smalls (ρ.t 9) L.t9 .u32 _ _ (by omega) (by omega)
        have hlo2 : 0 ≤ x2 := by omega
        have hhi2 : x2 ≤ 198 := by omega
        clear hx2 hxe2
        go_region_o
        go_wp2
        go_end0
        exact ⟨rfl, n + 2 + 1, by rw [AW2.out.eq, hR0.out]; unfold ends; simp only [HD2.out, HD1.out]; exact store2_world w blk off dk2 (n + 2) (0 + 1) (0) _ _ (by omega) (by omega)⟩
      · -- 7
        go_wp2
        go_name_slot 15 x0 hx0
        have hxe0 : x0 = ((x % 100 * 2 : Nat) : Int) := by omega
        have hXa0 : ∀ w, (Instr.index (ρ.t 9) (.string Lib.smalls) (.int .u32 (x0 + 1))).run P w = .ok (.int .u8 ((sm (x % 100 * 2 + 1)).toNat : Int)) w := idx_smalls (ρ.t 9) L.t9 .u32 _ _ (by omega) (by omega)
        have hXb0 : ∀ w, (Instr.index (ρ.t 9) (.string Lib.smalls) (.int .u32 x0)).run P w = .ok (.int .u8 ((sm (x % 100 * 2)).toNat : Int)) w := idx_smalls (ρ.t 9) L.t9 .u32 _ _ (by omega) (by omega)
        have hlo0 : 0 ≤ x0 := by omega
        have hhi0 : x0 ≤ 198 := by omega
        clear hx0 hxe0
        go_region_o
        go_wp2
        go_name_world W1 hW1
        have aw1 : Wo d.size w blk off W1 (n + 0 + 1) (two (5) (x) dk0) := ⟨by rw [← hW1, AW0.out.eq]; exact store2_world w blk off dk0 (n + 0) (5 + 1) (5) _ _ (by omega) (by omega), by rw [two_size]; exact AW0.out.sz⟩
        have AW1 := Lib.hid aw1
        generalize hdk1 : two (5) (x) dk0 = dk1 at AW1
        have HD1 := Lib.hid hdk1
        clear aw1 hdk1 hW1 hc0 hf0 hXa0 hXb0 hs0
        have hH1 : Holds (fun (b : UInt8) => Value.int .u8 (b.toNat : Int)) W1 blk off dk1 := by rw [AW1.out.eq]; exact holds_putRow _ w blk off d dk1 AH.out AW1.out.sz
        obtain ⟨G1, hG1⟩ : ∃ G : Nat → Int, ∀ t, G t = (dk1[t]!.toNat : Int) := ⟨_, fun _ => rfl⟩
        have hs1 := AW1.out.sz
        have hc1 : ∀ t, t < d.size → W1.cell? ⟨blk, off + t, none⟩ = some (.int .u8 (G1 t)) := fun t ht => by rw [hG1]; exact (hH1 t (by omega)).1
        have hf1 : ∀ t, t < d.size → W1.frozen? ⟨blk, off + t, none⟩ = false := fun t ht => (hH1 t (by omega)).2
        clear hG1 hH1
        go_name_slot 14 x1 hx1
        have hxe1 : x1 = ((x / 100 % 100 * 2 : Nat) : Int) := by omega
        have hXa1 : ∀ w, (Instr.index (ρ.t 9) (.string Lib.smalls) (.int .u32 (x1 + 1))).run P w = .ok (.int .u8 ((sm (x / 100 % 100 * 2 + 1)).toNat : Int)) w := idx_smalls (ρ.t 9) L.t9 .u32 _ _ (by omega) (by omega)
        have hXb1 : ∀ w, (Instr.index (ρ.t 9) (.string Lib.smalls) (.int .u32 x1)).run P w = .ok (.int .u8 ((sm (x / 100 % 100 * 2)).toNat : Int)) w := idx_smalls (ρ.t 9) L.t9 .u32 _ _ (by omega) (by omega)
        have hlo1 : 0 ≤ x1 := by omega
        have hhi1 : x1 ≤ 198 := by omega
        clear hx1 hxe1
        go_region_o
        go_wp2
        go_name_world W2 hW2
        have aw2 : Wo d.size w blk off W2 (n + 1 + 1) (two (3) (x / 100) dk1) := ⟨by rw [← hW2, AW1.out.eq]; exact store2_world w blk off dk1 (n + 1) (3 + 1) (3) _ _ (by omega) (by omega), by rw [two_size]; exact AW1.out.sz⟩
        have AW2 := Lib.hid aw2
        generalize hdk2 : two (3) (x / 100) dk1 = dk2 at AW2
        have HD2 := Lib.hid hdk2
        clear aw2 hdk2 hW2 hc1 hf1 hXa1 hXb1 hs1
        have hH2 : Holds (fun (b : UInt8) => Value.int .u8 (b.toNat : Int)) W2 blk off dk2 := by rw [AW2.out.eq]; exact holds_putRow _ w blk off d dk2 AH.out AW2.out.sz
        obtain ⟨G2, hG2⟩ : ∃ G : Nat → Int, ∀ t, G t = (dk2[t]!.toNat : Int) := ⟨_, fun _ => rfl⟩
        have hs2 := AW2.out.sz
        have hc2 : ∀ t, t < d.size → W2.cell? ⟨blk, off + t, none⟩ = some (.int .u8 (G2 t)) := fun t ht => by rw [hG2]; exact (hH2 t (by omega)).1
        have hf2 : ∀ t, t < d.size → W2.frozen? ⟨blk, off + t, none⟩ = false := fun t ht => (hH2 t (by omega)).2
        clear hG2 hH2
        go_name_slot 16 x2 hx2
        have hxe2 : x2 = ((x / 100 / 100 % 100 * 2 : Nat) : Int) := by omega
        have hXa2 : ∀ w, (Instr.index (ρ.t 9) (.string Lib.smalls) (.int .u32 (x2 + 1))).run P w = .ok (.int .u8 ((sm (x / 100 / 100 % 100 * 2 + 1)).toNat : Int)) w := idx_smalls (ρ.t 9) L.t9 .u32 _ _ (by omega) (by omega)
        have hXb2 : ∀ w, (Instr.index (ρ.t 9) (.string Lib.smalls) (.int .u32 x2)).run P w = .ok (.int .u8 ((sm (x / 100 / 100 % 100 * 2)).toNat : Int)) w := idx_smalls (ρ.t 9) L.t9 .u32 _ _ (by omega) (by omega)
        have hlo2 : 0 ≤ x2 := by omega
        have hhi2 : x2 ≤ 198 := by omega
        clear hx2 hxe2
        go_region_o
        go_wp2
        go_end0
        exact ⟨rfl, n + 2 + 1, by rw [AW2.out.eq, hR0.out]; unfold ends; simp only [HD2.out, HD1.out]; exact store21_world w blk off dk2 (n + 2) (1 + 1) (1) _ _ _ (x / 100 / 100 / 100) (by omega) (by omega) (by omega)⟩
end Go.Proofs.YtepgoehpjafbhaaGreatDoor
