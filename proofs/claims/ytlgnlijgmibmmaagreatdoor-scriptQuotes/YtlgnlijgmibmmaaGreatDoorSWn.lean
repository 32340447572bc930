/-
  script's writer: numbers, names, the first word.
-/
import Derived.Test.YtlgnlijgmibmmaaGreatDoorSWa
namespace Go.Proofs.YtlgnlijgmibmmaaGreatDoor
open Go.RowKit S
set_option linter.unusedVariables false
set_option linter.unusedSimpArgs false
/-- What of the library's variables is used, for both ways. -/
structure EnvW (E : Prop) (B : Nat) (F : Int → List UInt8) (w : World) : Prop where
  env : Env E B F w
  ito : ∀ n : Int, -9223372036854775808 ≤ n → n ≤ 9223372036854775807 → ∀ w', Below B w w' → Calls Tryz.prog 107 #[.int .i64 n] w' fun e w'' => e = .returned (.string (bs (F n))) ∧ Below w'.heap.size w' w''
  len : ∀ n, (F n).length ≤ 24
theorem EnvW.below {E : Prop} {B : Nat} {F : Int → List UInt8} {w w' : World} (h : EnvW E B F w) (k : Below B w w') : EnvW E B F w' := ⟨h.env.below k, fun n a b w'' k' => h.ito n a b w'' (k.trans k'), h.len⟩
theorem Mw.below {b B : Nat} {w w' : World} {v v' : Value} (h : Mw b w v w' v') (hB : B ≤ w.heap.size) (hb : B ≤ b) (hv : ∀ k, v.ownBlock = some k → B ≤ k) : Below B w w' :=
  ⟨h.os, h.tape, h.output, h.size, fun k hk => h.block k (by omega) (by omega) (fun e => by have := hv k e; omega)⟩
theorem Mw.ne {b c : Nat} {w w' : World} {v v' : Value} (h : Mw b w v w' v') (hc : c < w.heap.size) (hv : v.ownBlock ≠ some c) : v'.ownBlock ≠ some c := fun e => by
  rcases h.own c e with h1 | h1
  · exact hv h1
  · omega
theorem Wr.row {w : World} {b N : Nat} {v : Value} {t : List UInt8} {lg : Bool} (h : Wr w b N v t lg) : ∀ k, v.ownBlock = some k → N ≤ k := fun k e => (World.ownsRow.lt h.2.2.1 k e).1
theorem nameOf_yes (nb n : Nat) (zs : List ByteArray) (k : Nat) (x : List UInt8) (w : World) (h : Nm w nb zs) (hn : n = zs.length) (hk : zs[k]? = some (bs x)) (hx : x ≠ []) (hz : zs.length ≤ 100) :
    Calls Tryz.prog 103 #[.slice (some ⟨nb, 0, none⟩) n n, .int .i64 (k : Int)] w fun e w' => e = .returned (.string (bs x)) ∧ w' = w := by
  have hkl : k < zs.length := (List.getElem?_eq_some_iff.1 hk).1
  have hl : k < n := by omega
  have hn100 : n ≤ 100 := by omega
  have c1 := h.len k (bs x) hk
  have hd : decide ((0 : Int) ≤ (k : Int)) = true := decide_eq_true (by omega)
  have hd2 : decide ((k : Int) < (n : Int)) = true := decide_eq_true (by omega)
  have he : (bs x).toList.isEmpty = false := by
    cases x with
    | nil => exact absurd rfl hx
    | cons c t => exact emp_cons c t
  clear hn hk
  go_enter Tryz.func103, Tryz.ntmps103
  go_wp2_with fail
  refine (require_yes _).mono ?_
  rintro e w1 ⟨rfl, rfl⟩
  go_wp2
  go_ret
  exact ⟨rfl, rfl⟩
theorem nameOf_no (nb n : Nat) (zs : List ByteArray) (k : Int) (w : World) (h : Nm w nb zs) (hn : n = zs.length) (hk : ¬ (0 ≤ k ∧ k < (n : Int)) ∨ ∃ i : Nat, k = (i : Int) ∧ zs[i]? = some (bs [])) (hz : zs.length ≤ 100) :
    Calls Tryz.prog 103 #[.slice (some ⟨nb, 0, none⟩) n n, .int .i64 k] w fun e w' => Bad e ∧ w' = w := by
  have hn100 : n ≤ 100 := by omega
  rcases hk with hk | ⟨i, rfl, hi⟩
  · by_cases h0 : 0 ≤ k
    · have hd : decide ((0 : Int) ≤ k) = true := decide_eq_true h0
      have hd2 : decide (k < (n : Int)) = false := decide_eq_false (by omega)
      clear hn
      go_enter Tryz.func103, Tryz.ntmps103
      go_wp2_with fail
      refine (require_no _).mono ?_
      rintro e w1 ⟨rfl, rfl⟩
      go_wp2
      exact ⟨rfl, rfl, rfl⟩
    · have hd : decide ((0 : Int) ≤ k) = false := decide_eq_false h0
      clear hn
      go_enter Tryz.func103, Tryz.ntmps103
      go_wp2_with fail
      refine (require_no _).mono ?_
      rintro e w1 ⟨rfl, rfl⟩
      go_wp2
      exact ⟨rfl, rfl, rfl⟩
  · have hkl : i < zs.length := (List.getElem?_eq_some_iff.1 hi).1
    have hl : i < n := by omega
    have c1 := h.len i (bs []) hi
    have hd : decide ((0 : Int) ≤ (i : Int)) = true := decide_eq_true (by omega)
    have hd2 : decide ((i : Int) < (n : Int)) = true := decide_eq_true (by omega)
    have he := emp_nil
    clear hn
    go_enter Tryz.func103, Tryz.ntmps103
    go_wp2_with fail
    refine (require_no _).mono ?_
    rintro e w1 ⟨rfl, rfl⟩
    go_wp2
    exact ⟨rfl, rfl, rfl⟩
set_option maxRecDepth 100000 in
theorem wnumber_any {E : Prop} {B : Nat} {F : Int → List UInt8} (b N c off m : Nat) (ty : TypeId) (f : Nat → Value) (n : Int) (v : Value) (x : WS) (w : World) (hE : EnvW E B F w) (hB : B ≤ w.heap.size) (hb : B ≤ b) (hN : B ≤ N)
    (hW : Wr w b N v x.1 x.2) (hC : Has w c ty f m) (ho : off < m) (hf : f off = .int .i64 n) (h1 : -9223372036854775808 ≤ n) (h2 : n ≤ 9223372036854775807) (ht : x.1.length ≤ 65536) :
    Calls Tryz.prog 98 #[.pointer (some ⟨b, 0, none⟩), .pointer (some ⟨c, off, none⟩)] w fun e w' => e = .returned (.tuple #[]) ∧ ∃ v', Wr w' b N v' (wordW (F n) x).1 (wordW (F n) x).2 ∧ Mw b w v w' v' := by
  have c0 : w.cell? ⟨c, off, none⟩ = some (.int .i64 n) := by rw [hC.cell off ho, hf]
  clear hf
  go_enter Tryz.func98, Tryz.ntmps98
  go_wp2_with fail
  refine (hE.env.fmt n h1 h2 _ (Below.refl _ _)).mono ?_
  rintro e w1 ⟨rfl, b1⟩
  have hW1 := hW.below b1
  have HM1 : Hid (Mw b w v w1 v) := hide (Mw.of b1)
  clear b1
  go_wp2_with fail
  refine (addWord_any b N v x (F n) _ hW1 ht (by have := hE.len n; omega)).mono ?_
  rintro e w2 ⟨rfl, v2, hW2, hM2⟩
  have HW2 := hide hW2
  have HM2 := hide (HM1.out.trans hM2)
  clear hW2 hM2 hW1
  go_wp2
  go_end0
  exact ⟨rfl, v2, HW2.out, HM2.out⟩
set_option maxRecDepth 100000 in
theorem wwhole_any {E : Prop} {B : Nat} {F : Int → List UInt8} (b N c off m : Nat) (ty : TypeId) (f : Nat → Value) (n : Int) (v : Value) (x : WS) (w : World) (hE : EnvW E B F w) (hB : B ≤ w.heap.size) (hb : B ≤ b) (hN : B ≤ N)
    (hW : Wr w b N v x.1 x.2) (hC : Has w c ty f m) (ho : off < m) (hf : f off = .int .i64 n) (h1 : -9223372036854775808 ≤ n) (h2 : n ≤ 9223372036854775807) (ht : x.1.length ≤ 65536) :
    Calls Tryz.prog 100 #[.pointer (some ⟨b, 0, none⟩), .pointer (some ⟨c, off, none⟩)] w fun e w' => e = .returned (.tuple #[]) ∧ ∃ v', Wr w' b N v' (wordW (F n) x).1 (wordW (F n) x).2 ∧ Mw b w v w' v' := by
  have c0 : w.cell? ⟨c, off, none⟩ = some (.int .i64 n) := by rw [hC.cell off ho, hf]
  clear hf
  go_enter Tryz.func100, Tryz.ntmps100
  go_wp2_with fail
  refine (hE.ito n h1 h2 _ (Below.refl _ _)).mono ?_
  rintro e w1 ⟨rfl, b1⟩
  have hW1 := hW.below b1
  have HM1 : Hid (Mw b w v w1 v) := hide (Mw.of b1)
  clear b1
  go_wp2_with fail
  refine (addWord_any b N v x (F n) _ hW1 ht (by have := hE.len n; omega)).mono ?_
  rintro e w2 ⟨rfl, v2, hW2, hM2⟩
  have HW2 := hide hW2
  have HM2 := hide (HM1.out.trans hM2)
  clear hW2 hM2 hW1
  go_wp2
  go_end0
  exact ⟨rfl, v2, HW2.out, HM2.out⟩
end Go.Proofs.YtlgnlijgmibmmaaGreatDoor
