/-
  script: kinds by their names; digits.
-/
import Derived.Test.YtepgoehpjafbhaaGreatDoorSWd
namespace Go.Proofs.YtepgoehpjafbhaaGreatDoor
open Go.RowKit S
set_option linter.unusedVariables false
set_option linter.unusedSimpArgs false
/-- Names in a block. -/
def Nm (w : World) (b : Nat) (zs : List ByteArray) : Prop := ∀ j, j < zs.length → w.cell? ⟨b, 0 + j, none⟩ = some (.string (zs.getD j ByteArray.empty))
def commN : List ByteArray := [bs [], bs [119, 111, 114, 108, 100], bs [], bs [113, 117, 105, 101, 116], bs [115, 116, 97, 116, 101], bs [108, 101, 100, 103, 101, 114], bs [109, 97, 114, 107], bs [112, 105, 112, 101], bs [102, 105, 108, 101, 115], bs [106, 111, 105, 110, 101, 100]]
def moveN : List ByteArray := [bs [], bs [115, 116, 101, 112], bs [106, 111, 105, 110], bs [99, 117, 116], bs [100, 101, 108, 105, 118, 101, 114], bs [108, 111, 115, 101]]
def stepN : List ByteArray := [bs [], bs [111, 102, 102, 101, 114], bs [115, 101, 116, 116, 108, 101], bs [114, 101, 102, 117, 115, 101], bs [115, 105, 103, 110], bs [99, 108, 111, 115, 101], bs [99, 111, 110, 110, 101, 99, 116], bs [100, 105, 115, 99, 111, 110, 110, 101, 99, 116], bs [116, 97, 107, 101], bs [99, 104, 101, 99, 107, 112, 111, 105, 110, 116], bs [97, 114, 109], bs [102, 97, 108, 108], bs [99, 114, 97, 115, 104], bs [111, 112, 101, 110]]
def fateN : List ByteArray := [bs [108, 111, 115, 116], bs [107, 101, 112, 116], bs [114, 101, 112, 108, 97, 99, 101]]
def nmC (zs : List ByteArray) : Array Value := (zs.map Value.string).toArray
theorem Nm.new (w : World) (zs : List ByteArray) : Nm (w.alloc (.cells (nmC zs) 9)) w.heap.size zs := fun j hj => by
  rw [cell_of_row _ _ _ _ _ (0, 0) (heap_alloc_new w _), Nat.zero_add]
  unfold nmC
  rw [List.getElem?_toArray, List.getElem?_map, List.getElem?_eq_getElem hj]
  simp [List.getD_eq_getElem?_getD, hj]
set_option maxRecDepth 100000 in
theorem moveNames_any (w : World) : Calls Tryz.prog 104 #[] w fun e w' => e = .returned (.slice (some ⟨w.heap.size, 0, none⟩) 6 6) ∧ w' = w.alloc (.cells (nmC moveN) 9) := by
  go_enter Tryz.func104, Tryz.ntmps104
  go_wp2
  go_ret
  exact ⟨rfl, rfl⟩
set_option maxRecDepth 100000 in
theorem commNames_any (w : World) : Calls Tryz.prog 105 #[] w fun e w' => e = .returned (.slice (some ⟨w.heap.size, 0, none⟩) 10 10) ∧ w' = w.alloc (.cells (nmC commN) 9) := by
  go_enter Tryz.func105, Tryz.ntmps105
  go_wp2
  go_ret
  exact ⟨rfl, rfl⟩
set_option maxRecDepth 100000 in
theorem stepNames_any (w : World) : Calls Tryz.prog 69 #[] w fun e w' => e = .returned (.slice (some ⟨w.heap.size, 0, none⟩) 14 14) ∧ w' = w.alloc (.cells (nmC stepN) 9) := by
  go_enter Tryz.func69, Tryz.ntmps69
  go_wp2
  go_ret
  exact ⟨rfl, rfl⟩
set_option maxRecDepth 100000 in
theorem fateNames_any (w : World) : Calls Tryz.prog 108 #[] w fun e w' => e = .returned (.slice (some ⟨w.heap.size, 0, none⟩) 3 3) ∧ w' = w.alloc (.cells (nmC fateN) 9) := by
  go_enter Tryz.func108, Tryz.ntmps108
  go_wp2
  go_ret
  exact ⟨rfl, rfl⟩
/-- The kind of a name; none: nobody's. -/
def kindB (zs : List ByteArray) (nm : List UInt8) : Bool := decide (0 ≤ Lib.idxOfS zs (bs nm)) && !nm.isEmpty
theorem kindOf_any (b n : Nat) (zs : List ByteArray) (nm : List UInt8) (w : World) (h : Nm w b zs) (hn : n = zs.length) (hz : zs.length ≤ 100) : Calls Tryz.prog 134 #[.slice (some ⟨b, 0, none⟩) n n, .string (bs nm)] w fun e w' => e = .returned (.tuple #[.int .i64 (Lib.idxOfS zs (bs nm)), .bool (kindB zs nm)]) ∧ w' = w := by
  subst hn
  have hq := Any.slices_Index_string Tryz.laysIndexS b 0 zs.length zs.length zs (bs nm) w (Nat.le_refl _) (by omega) h
  rw [List.take_length] at hq
  have hE : (bs nm).toList.isEmpty = nm.isEmpty := by rw [bs_list]
  by_cases h0 : 0 ≤ Lib.idxOfS zs (bs nm)
  · have hk : kindB zs nm = !nm.isEmpty := by unfold kindB; rw [decide_eq_true h0]; rfl
    rw [hk]
    clear hk
    generalize hI : Lib.idxOfS zs (bs nm) = I at hq h0 ⊢
    have hd : decide (0 ≤ I) = true := decide_eq_true h0
    clear hI
    go_enter Tryz.func134, Tryz.ntmps134
    go_wp2_with fail
    refine hq.mono ?_
    rintro e w1 ⟨rfl, rfl⟩
    go_wp2
    go_ret2
    exact ⟨rfl, rfl⟩
  · have hk : kindB zs nm = false := by unfold kindB; rw [decide_eq_false h0]; rfl
    rw [hk]
    clear hk
    generalize hI : Lib.idxOfS zs (bs nm) = I at hq h0 ⊢
    have hd : decide (0 ≤ I) = false := decide_eq_false h0
    clear hI
    go_enter Tryz.func134, Tryz.ntmps134
    go_wp2_with fail
    refine hq.mono ?_
    rintro e w1 ⟨rfl, rfl⟩
    go_wp2
    go_ret2
    exact ⟨rfl, rfl⟩
/-- The value of a digit. -/
def digs : List UInt8 := [48, 49, 50, 51, 52, 53, 54, 55, 56, 57, 97, 98, 99, 100, 101, 102]
def valA (d : UInt8) : Int := Lib.indexByte digs d
theorem all_u8 (p : UInt8 → Prop) (h : ∀ n : Fin 256, p (UInt8.ofNat n.val)) (d : UInt8) : p d := by
  have := h ⟨d.toNat, d.toNat_lt⟩
  rw [UInt8.ofNat_toNat] at this
  exact this
theorem valA_rng (d : UInt8) : -1 ≤ valA d ∧ valA d < 16 := all_u8 (fun d => -1 ≤ valA d ∧ valA d < 16) (by decide +kernel) d
theorem valueOf_no (d : UInt8) (w : World) (h : valA d < 0) : Calls Tryz.prog 138 #[.int .u8 (d.toNat : Int)] w fun e w' => Bad e ∧ w' = w := by
  have hq := indexB_any digs d w
  unfold valA at h
  generalize Lib.indexByte digs d = I at hq h
  have hd : decide (0 ≤ I) = false := decide_eq_false (by omega)
  go_enter Tryz.func138, Tryz.ntmps138
  go_wp2_with fail
  refine hq.mono ?_
  rintro e w1 ⟨rfl, rfl⟩
  go_wp2_with fail
  refine (require_no _).mono ?_
  rintro e w1 ⟨rfl, rfl⟩
  go_wp2
  exact ⟨rfl, rfl, rfl⟩
theorem valueOf_yes (d : UInt8) (w : World) (h : 0 ≤ valA d) : Calls Tryz.prog 138 #[.int .u8 (d.toNat : Int)] w fun e w' => e = .returned (.int .u8 (valA d)) ∧ w' = w := by
  have hq := indexB_any digs d w
  have h2 := (valA_rng d).2
  unfold valA at h h2 ⊢
  generalize Lib.indexByte digs d = I at hq h h2 ⊢
  have hd : decide (0 ≤ I) = true := decide_eq_true (by omega)
  have hw : IntKind.u8.wrap I = I := by rw [IntKind.wrap_u8]; omega
  go_enter Tryz.func138, Tryz.ntmps138
  go_wp2_with fail
  refine hq.mono ?_
  rintro e w1 ⟨rfl, rfl⟩
  go_wp2_with fail
  refine (require_yes _).mono ?_
  rintro e w1 ⟨rfl, rfl⟩
  go_wp2
  go_ret
  exact ⟨rfl, rfl⟩
/-- The byte of two digits. -/
def byteA (u v : UInt8) : UInt8 := UInt8.ofNat (16 * (valA u).toNat + (valA v).toNat)
theorem bits_or (U V : Int) (hu : 0 ≤ U) (h1 : U < 16) (hv : 0 ≤ V) (h2 : V < 16) : bits BinOp.or IntKind.u8 (U * 16) V = ((UInt8.ofNat (16 * U.toNat + V.toNat)).toNat : Int) := by
  have h : ∀ a b : Fin 16, bits BinOp.or IntKind.u8 ((a.val : Int) * 16) (b.val : Int) = ((UInt8.ofNat (16 * a.val + b.val)).toNat : Int) := by decide +kernel
  have := h ⟨U.toNat, by omega⟩ ⟨V.toNat, by omega⟩
  simp only [Int.toNat_of_nonneg hu, Int.toNat_of_nonneg hv] at this
  exact this
theorem byteOf_yes (u v : UInt8) (w : World) (hu : 0 ≤ valA u) (hv : 0 ≤ valA v) : Calls Tryz.prog 132 #[.int .u8 (u.toNat : Int), .int .u8 (v.toNat : Int)] w fun e w' => e = .returned (.int .u8 ((byteA u v).toNat : Int)) ∧ w' = w := by
  have h1 := (valA_rng u).2
  have h2 := (valA_rng v).2
  have HB := bits_or _ _ hu h1 hv h2
  have hb : ((UInt8.ofNat (16 * (valA u).toNat + (valA v).toNat)).toNat : Int) = ((byteA u v).toNat : Int) := rfl
  rw [hb] at HB
  generalize ((byteA u v).toNat : Int) = R at HB ⊢
  clear hb
  go_enter Tryz.func132, Tryz.ntmps132
  go_wp2_with fail
  refine (valueOf_yes u _ hu).mono ?_
  rintro e w1 ⟨rfl, rfl⟩
  generalize valA u = U at hu h1 HB ⊢
  go_wp2_with fail
  refine (valueOf_yes v _ hv).mono ?_
  rintro e w1 ⟨rfl, rfl⟩
  generalize valA v = V at hv h2 HB ⊢
  go_wp2
  go_ret
  exact ⟨rfl, rfl⟩
theorem byteOf_no (u v : UInt8) (w : World) (h : valA u < 0 ∨ valA v < 0) : Calls Tryz.prog 132 #[.int .u8 (u.toNat : Int), .int .u8 (v.toNat : Int)] w fun e w' => Bad e ∧ w' = w := by
  go_enter Tryz.func132, Tryz.ntmps132
  go_wp2_with fail
  by_cases hu : valA u < 0
  · refine (valueOf_no u _ hu).mono ?_
    rintro e w1 ⟨rfl, rfl⟩
    go_wp2
    exact ⟨rfl, rfl, rfl⟩
  · have hv : valA v < 0 := h.resolve_left hu
    have hu' : 0 ≤ valA u := by omega
    have h1 := (valA_rng u).2
    refine (valueOf_yes u _ hu').mono ?_
    rintro e w1 ⟨rfl, rfl⟩
    generalize valA u = U at hu hu' h1 ⊢
    go_wp2_with fail
    refine (valueOf_no v _ hv).mono ?_
    rintro e w1 ⟨rfl, rfl⟩
    go_wp2
    exact ⟨rfl, rfl, rfl⟩
end Go.Proofs.YtepgoehpjafbhaaGreatDoor
