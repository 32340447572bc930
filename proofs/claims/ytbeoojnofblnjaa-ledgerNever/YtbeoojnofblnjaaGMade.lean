/-
  The law's own: bases, Made, counts (printed by gen_made.py).
-/
import Derived.Test.YtbeoojnofblnjaaGSpends
namespace Go.Proofs.Ytbeoojnofblnjaa
open Go.RowKit S Go.Shelf Go.Sort
set_option linter.unusedVariables false
set_option linter.unusedSimpArgs false
theorem and_mask (x : Int) (m : Nat) (hm : m < 9223372036854775808) : 0 ≤ bits .and .i64 x (m : Int) ∧ bits .and .i64 x (m : Int) ≤ (m : Int) := by
  have e : bits .and .i64 x (m : Int) = IntKind.i64.wrap ((BitVec.ofInt 64 x &&& BitVec.ofInt 64 (m : Int)).toNat : Int) := rfl
  have hle : (BitVec.ofInt 64 x &&& BitVec.ofInt 64 (m : Int)).toNat ≤ m := by
    rw [BitVec.toNat_and]
    refine Nat.le_trans Nat.and_le_right ?_
    rw [BitVec.ofInt_natCast, BitVec.toNat_ofNat]
    exact Nat.mod_le _ _
  rw [e]
  generalize (BitVec.ofInt 64 x &&& BitVec.ofInt 64 (m : Int)).toNat = k at hle
  rw [IntKind.wrap_i64]
  omega
def baseI (x : Int) : Int := bits .and .i64 x 576460752303423487
theorem baseI_bd (x : Int) : 0 ≤ baseI x ∧ baseI x ≤ 576460752303423487 := and_mask x 576460752303423487 (by omega)
theorem bases_any (x y : Int) (w : World) : Calls Try.prog 5 #[.int .i64 x, .int .i64 y] w fun e w' => e = .returned (.tuple #[.int .i64 (baseI x), .int .i64 (baseI y)]) ∧ w' = w := by
  unfold baseI
  go_enter Try.func5, Try.ntmps5
  go_wp2
  go_ret2
  exact ⟨rfl, rfl⟩
def idI (x : Int) : Int := bits .and .i64 x 2047
def kdI (x : Int) : Int := bits .and .i64 x 3
def amI (x : Int) : Int := 1 + bits .and .i64 x 1152921504606846975
theorem idI_bd (x : Int) : 0 ≤ idI x ∧ idI x ≤ 2047 := and_mask x 2047 (by omega)
theorem amI_bd (x : Int) : 1 ≤ amI x ∧ amI x ≤ 1152921504606846976 := by
  have h : 0 ≤ bits .and .i64 x 1152921504606846975 ∧ bits .and .i64 x 1152921504606846975 ≤ 1152921504606846975 := and_mask x 1152921504606846975 (by omega)
  unfold amI; omega
def made0 (u : Upd) : Upd := ⟨1, idI u.id, 0, fun _ => 0, nilB⟩
def madeU (u : Upd) : Upd := if kdI u.kind = 2 then ⟨2, idI u.id, 0, u.hash, nilB⟩ else if kdI u.kind = 3 then ⟨3, idI u.id, 0, fun _ => 0, nilB⟩ else ⟨1, idI u.id, amI u.amt, u.hash, nilB⟩
theorem made_valid (u : Upd) : validB (madeU u) = true := by
  have h1 := idI_bd u.id
  have h2 := amI_bd u.amt
  have i0 : decide (idI u.id < 0) = false := decide_eq_false (by omega)
  have i1 : decide (2048 ≤ idI u.id) = false := decide_eq_false (by omega)
  have i2 : decide (1 ≤ amI u.amt) = true := decide_eq_true (by omega)
  have i3 : decide (amI u.amt ≤ 1152921504606846976) = true := decide_eq_true (by omega)
  have n1 : nilB.toList.isEmpty = true := by decide +kernel
  have n0 : ∀ k i a h, noteE ⟨k, i, a, h, nilB⟩ = true := fun _ _ _ _ => n1
  unfold madeU validB
  split
  · simp [i0, i1, n0]
  · split
    · simp [i0, i1]; exact ⟨eqH_refl _, by decide⟩
    · simp [i0, i1, i2, i3, n0]
theorem made_all (l : List Upd) (k : Nat) : ((l.map madeU).take k).all validB = true := by
  rw [List.all_eq_true]
  intro u hu
  obtain ⟨v, _, rfl⟩ := List.mem_map.1 (List.mem_of_mem_take hu)
  exact made_valid v
theorem made_next {l : List Upd} {j : Nat} {x : Upd} (h : l[j]? = some x) : (l.take (j + 1)).map madeU = (l.take j).map madeU ++ [madeU x] := by rw [take_snoc h, List.map_append]; rfl
set_option maxRecDepth 100000 in
theorem built_made (i : Int) : Try.prog.built 43 [(0, .int .i64 1), (1, .int .i64 i)] = some (tabv (⟨1, i, 0, fun _ => 0, nilB⟩ : Upd).v 36) := by kernel_rfl
section
variable {ops : Array Oper} {rest : List Oper} {o : Oper} {a : Act} {w : World} {Q : Exit → Act → World → Prop}
theorem wpList_storeHU (hgd : o.guard = none) (x y : Operand) (ho : o.op = .store 41 x y) (hd : o.dst = none) (g : Nat) (h : Nat → UInt8) (s : Upd) (hx : a.eval x = .pointer (some ⟨g, 3, none⟩)) (hy : a.eval y = .agg (tabv (bv h) 32)) (hg : Has w g 43 s.v 36) (t : Upd) (ht : t = ⟨s.kind, s.id, s.amt, h, s.note⟩)
    (hk : wpList Try.prog ops Q rest a (w.setRow g (tabv t.v 36))) : wpList Try.prog ops Q (o :: rest) a w :=
  wpList_store_part hgd 41 x y ho hd g 3 (bv h) 32 hx hy 43 s.v 36 hg (by omega) info26 (fun i _ => rfl) _ (fun i hi => by
    subst ht
    unfold splice Upd.v bv
    by_cases h0 : i = 0
    · subst h0; simp
    · by_cases h1 : i = 1
      · subst h1; simp
      · by_cases h2 : i = 2
        · subst h2; simp
        · by_cases h3 : i < 35
          · rw [if_pos (by omega), if_neg h0, if_neg h1, if_neg h2, if_pos h3]
          · rw [if_neg (by omega), if_neg h0, if_neg h1, if_neg h2, if_neg h3, if_neg h0, if_neg h1, if_neg h2, if_neg h3]) hk
end
theorem Has.kindU {w : World} {g : Nat} {s : Upd} (h : Has w g 43 s.v 36) (k : Int) : Has (w.setCell ⟨g, 0, none⟩ (.int .i64 k)) g 43 (⟨k, s.id, s.amt, s.hash, s.note⟩ : Upd).v 36 :=
  (h.set 0 (.int .i64 k)).congr _ (fun i hi => by unfold upd Upd.v; by_cases e : i = 0
                                                  · subst e; simp
                                                  · rw [if_neg e, if_neg e, if_neg e])
theorem Has.amtU {w : World} {g : Nat} {s : Upd} (h : Has w g 43 s.v 36) (k : Int) : Has (w.setCell ⟨g, 2, none⟩ (.int .i64 k)) g 43 (⟨s.kind, s.id, k, s.hash, s.note⟩ : Upd).v 36 :=
  (h.set 2 (.int .i64 k)).congr _ (fun i hi => by unfold upd Upd.v; by_cases e : i = 2
                                                  · subst e; simp
                                                  · rw [if_neg e]; by_cases e0 : i = 0
                                                    · subst e0; simp
                                                    · by_cases e1 : i = 1
                                                      · subst e1; simp
                                                      · rw [if_neg e0, if_neg e1, if_neg e, if_neg e0, if_neg e1, if_neg e])
-- left out in this seat: made_any
end Go.Proofs.Ytbeoojnofblnjaa
