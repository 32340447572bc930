/-
  Slices of bytes that the call makes: append a byte; string(b). The law's bytes and the document's Bytes, Pad.
-/
import Derived.Test.YtfacfbmfnpioeaaDoorMacText
import Derived.Deep.AppendLies
namespace Go.Proofs.YtfacfbmfnpioeaaDoor
open Go.RowKit S
def byteV (c : UInt8) : Value := .int .u8 (c.toNat : Int)
/-- v is a slice of the bytes l, in memory of the call's own, from block B on. -/
def Bytes (w : World) (B : Nat) (v : Value) (l : List UInt8) : Prop := w.ownsRow B 5 1 v l.length (l.map byteV)
theorem info5 : (Tryd.prog.info? 5).map (fun i => (i.zero, i.size, i.bytes)) = some (some (.int .u8 0), 1, 1) := by kernel_rfl
theorem Bytes.nil (w : World) (B : Nat) : Bytes w B (.slice none 0 0) [] := World.ownsRow_nil w B 5 1
theorem grown_below {w w' : World} {row : Option Nat} {B : Nat} (hg : w.grownBy w' row) (hr : ∀ k, row = some k → B ≤ k) (hB : B ≤ w.heap.size) : Below B w w' :=
  ⟨hg.os, hg.tape, hg.output, hg.size, fun k hk => hg.block k (by omega) (fun e => by have := hr k e.symm; omega)⟩
theorem grown_alloc (w : World) (o : Obj) (row : Option Nat) : w.grownBy (w.alloc o) row :=
  ⟨rfl, rfl, rfl, by simp, fun i hi _ => Below.heap_alloc w o i hi⟩
theorem Bytes.block {w : World} {B : Nat} {v : Value} {l : List UInt8} (h : Bytes w B v l) : ∀ k, v.ownBlock = some k → B ≤ k := fun k hk => (World.ownsRow.lt h k hk).1
theorem wpList_append_byte {ops : Array Oper} {rest : List Oper} {o : Oper} {a : Act} {w w0 : World} {Q : Exit → Act → World → Prop} (hgd : o.guard = none) (s x : Operand)
    (ho : o.op = .call { callee := .builtin .append, args := #[s, x], argTypes := #[31, 31] }) (B : Nat) (v : Value) (l : List UInt8) (c : UInt8) (X : Int) (hX : X = (c.toNat : Int)) (hs : a.eval s = v) (hown : Bytes w0 B v l)
    (hx : a.eval x = .slice (some ⟨w0.heap.size, 0, none⟩) 1 1) (hw : w = w0.alloc (.cells #[.int .u8 X] 5)) (hlen : l.length + 1 ≤ 140737488355328) (hB : B ≤ w0.heap.size)
    (h : ∀ g cap w', Bytes w' B (.slice (some ⟨g, 0, none⟩) (l.length + 1) cap) (l ++ [c]) → w0.grownBy w' v.ownBlock → (v.ownBlock = some g ∨ g = w0.heap.size + 1) → wpList Tryd.prog ops Q rest (a.put o.dst (.slice (some ⟨g, 0, none⟩) (l.length + 1) cap)) w') : wpList Tryd.prog ops Q (o :: rest) a w := by
  subst hX hw
  have hh := info5
  cases hq : Tryd.prog.info? 5 with
  | none => rw [hq] at hh; cases hh
  | some i =>
    rw [hq] at hh
    simp only [Option.map_some, Option.some.injEq, Prod.mk.injEq] at hh
    obtain ⟨hz0, hz1, hz2⟩ := hh
    have hown' : (w0.alloc (.cells #[.int .u8 (c.toNat : Int)] 5)).ownsRow B 5 1 v l.length (l.map byteV) := World.ownsRow.kept hown (grown_alloc w0 _ none) (by cases v.ownBlock <;> simp)
    refine wpList_append_lies (P := Tryd.prog) _ hgd s x 31 ho B 5 i (.int .u8 0) 1 1 Tryd.underlying31 hq hz0 hz1 hz2 rfl (by omega) v l.length (l.map byteV) hs hown' ⟨w0.heap.size, 0, none⟩ 1 1 [byteV c] hx rfl ?_ ?_ (by omega) (by unfold maxLen; omega) (by omega) (by simp; omega) (w0.heap.size + 1) (by simp) ?_
    · intro j u hu
      exact World.news_of_block (heap_alloc_new w0 _) j u hu
    · intro u hu
      simp at hu; subst hu; rfl
    · intro g cap w' h1 h2 h3 h4
      refine h g cap w' ?_ ((grown_alloc w0 _ v.ownBlock).trans h2) h3
      unfold Bytes
      rw [List.length_append, List.map_append]
      exact h1
/-- Cell i of the slice. -/
theorem Bytes.cells {w : World} {B g n cap : Nat} {l : List UInt8} (h : Bytes w B (.slice (some ⟨g, 0, none⟩) n cap) l) (i : Nat) (hi : i < l.length) : w.cell? ⟨g, i, none⟩ = some (byteV (byteAt l i)) := by
  rcases h.2 with ⟨h1, _⟩ | ⟨g', cap', cur, h1, hb, hg, hnc, hcm, hcs, htake⟩
  · cases h1
  · simp only [Value.slice.injEq, Option.some.injEq, Addr.mk.injEq, and_true] at h1
    obtain ⟨rfl, rfl, rfl⟩ := h1
    rw [cell_of_row w g i cur 5 (0, 0) hg]
    rw [Nat.mul_one] at htake
    have e : (cur.toList.take l.length)[i]? = (l.map byteV)[i]? := by rw [htake]
    rw [List.getElem?_take_of_lt hi, List.getElem?_map, List.getElem?_eq_getElem hi, Array.getElem?_toList] at e
    rw [e]
    unfold byteAt
    rw [List.getD_eq_getElem?_getD, List.getElem?_eq_getElem hi]
    rfl
theorem Bytes.conv {w : World} {B g n cap : Nat} {l : List UInt8} (h : Bytes w B (.slice (some ⟨g, 0, none⟩) n cap) l) (hn : n = l.length) : (convert 31 9 (.slice (some ⟨g, 0, none⟩) n cap)).run Tryd.prog w = .ok (.string ⟨l.toArray⟩) w := by
  subst hn
  have hr := run_convert_bytes_arg w 31 5 Tryd.underlying31 Tryd.underlying5 g 0 l.length cap (l.map fun c => (c.toNat : Int)) (by simp) (fun i hi => by
    rw [Nat.zero_add, h.cells i hi]
    unfold byteAt byteV
    rw [List.getD_eq_getElem?_getD, List.getElem?_eq_getElem hi]
    simp [hi]) 9 Tryd.underlying9
  rw [hr]
  congr 3
  simp only [strOfNums, List.map_map, Function.comp_def, Int.toNat_natCast]
  simp
theorem range_snoc {α : Type} (f : Nat → α) (k : Nat) : (List.range k).map f ++ [f k] = (List.range (k + 1)).map f := by rw [List.range_succ, List.map_append]; rfl
-- left out in this seat: lawBytes_any
set_option maxHeartbeats 800000 in
theorem refBytes_any (h : Nat → UInt8) (w : World) :
    Calls Tryd.prog 17 #[.agg (tabv (bv h) 32)] w fun e w' => e = .returned (.string (strOf h 32)) ∧ Below w.heap.size w w' := by
  go_enter Tryd.func17, Tryd.ntmps17
  go_wp2
  have g0 := Has.new w 23 (bv h) 32 _ rfl
  have gb := (Below.refl w.heap.size w).alloc (Nat.le_refl _) (.cells (tabv (bv h) 32) 23)
  have gs : w.heap.size + 1 ≤ (w.alloc (.cells (tabv (bv h) 32) 23)).heap.size := by simp
  generalize World.alloc w _ = w3 at g0 gb gs ⊢
  go_loopw [4, 3] (fun i v wr => ∃ k : Nat, k ≤ 32 ∧ i = .int .i64 k ∧ Bytes wr (w.heap.size + 1) v ((List.range k).map h) ∧ Has wr w.heap.size 23 (bv h) 32 ∧ Below w.heap.size w wr ∧ w.heap.size + 1 ≤ wr.heap.size) (fun i _ _ => 32 - (intOf i).toNat)
  case atStart => exact ⟨0, by omega, rfl, Bytes.nil _ _, g0, gb, gs⟩
  case round =>
    clear g0 gb gs
    obtain ⟨k, hk, rfl, hB, g0, gb, gs⟩ := hrel
    by_cases hlt : k < 32
    · have hc := g0.cell k hlt
      simp only [bv] at hc
      have hd : decide ((k : Int) < 32) = true := by simp; omega
      go_wp2_with (at_builtin; refine wpList_append_byte rfl _ _ rfl (w.heap.size + 1) _ ((List.range k).map h) (h k) _ rfl (by rfl) hB (by rfl) rfl (by simp; omega) gs ?_; intro g cap w5 hB5 hgr hg)
      go_roundw
      case rel =>
        have hbl := grown_below (B := w.heap.size + 1) hgr hB.block gs
        refine ⟨k + 1, by omega, by go_num, ?_, g0.below hbl (by omega), gb.trans (hbl.mono (by omega)), Nat.le_trans gs hbl.size⟩
        rw [range_snoc] at hB5
        rw [List.length_map, List.length_range] at hB5
        exact hB5
      case measure => simp [intOf]; omega
    · have hk32 : k = 32 := by omega
      subst hk32
      obtain ⟨g, cap, rfl, _, _⟩ := World.ownsRow.form hB (by simp)
      rw [show ((List.range 32).map h).length = 32 by simp] at hB ⊢
      have hcv := hB.conv (by simp)
      go_wp2
      go_ret
      exact ⟨rfl, gb⟩
set_option maxHeartbeats 800000 in
theorem refPad_any (key : Nat → UInt8) (c : UInt8) (C : Int) (hC : C = (c.toNat : Int)) (w : World) :
    Calls Tryd.prog 16 #[.agg (tabv (bv key) 32), .int .u8 C] w fun e w' => e = .returned (.string (strOf (keyed key c) 64)) ∧ Below w.heap.size w w' := by
  subst hC
  go_enter Tryd.func16, Tryd.ntmps16
  go_wp2
  have g0 := Has.new w 23 (bv key) 32 _ rfl
  have gb := (Below.refl w.heap.size w).alloc (Nat.le_refl _) (.cells (tabv (bv key) 32) 23)
  have gs : w.heap.size + 1 ≤ (w.alloc (.cells (tabv (bv key) 32) 23)).heap.size := by simp
  generalize World.alloc w _ = w3 at g0 gb gs ⊢
  go_loopw [6, 5] (fun i v wr => ∃ k : Nat, k ≤ 64 ∧ i = .int .i64 k ∧ Bytes wr (w.heap.size + 1) v ((List.range k).map (keyed key c)) ∧ Has wr w.heap.size 23 (bv key) 32 ∧ Below w.heap.size w wr ∧ w.heap.size + 1 ≤ wr.heap.size) (fun i _ _ => 64 - (intOf i).toNat)
  case atStart => exact ⟨0, by omega, rfl, Bytes.nil _ _, g0, gb, gs⟩
  case round =>
    clear g0 gb gs
    obtain ⟨k, hk, rfl, hB, g0, gb, gs⟩ := hrel
    by_cases hlt : k < 64
    · have hd : decide ((k : Int) < 64) = true := by simp; omega
      by_cases h32 : k < 32
      · have hc := g0.cell k h32
        simp only [bv] at hc
        have hd2 : decide ((k : Int) < 32) = true := by simp; omega
        have hx : bits .xor .u8 ((key k).toNat : Int) (c.toNat : Int) = ((keyed key c k).toNat : Int) := by unfold keyed; rw [if_pos h32]; exact u8_xor_byte _ _
        go_wp2_with (at_builtin; refine wpList_append_byte rfl _ _ rfl (w.heap.size + 1) _ ((List.range k).map (keyed key c)) (keyed key c k) _ rfl (by rfl) hB (by rfl) rfl (by simp; omega) gs ?_; intro g cap w5 hB5 hgr hg)
        go_roundw
        case rel =>
          have hbl := grown_below (B := w.heap.size + 1) hgr hB.block gs
          refine ⟨k + 1, by omega, by go_num, ?_, g0.below hbl (by omega), gb.trans (hbl.mono (by omega)), Nat.le_trans gs hbl.size⟩
          rw [range_snoc] at hB5
          rw [List.length_map, List.length_range] at hB5
          exact hB5
        case measure => simp [intOf]; omega
      · have hd2 : decide ((k : Int) < 32) = false := by simp; omega
        have hx : bits .xor .u8 0 (c.toNat : Int) = ((keyed key c k).toNat : Int) := by unfold keyed; rw [if_neg h32]; exact u8_xor_byte 0 _
        go_wp2_with (at_builtin; refine wpList_append_byte rfl _ _ rfl (w.heap.size + 1) _ ((List.range k).map (keyed key c)) (keyed key c k) _ rfl (by rfl) hB (by rfl) rfl (by simp; omega) gs ?_; intro g cap w5 hB5 hgr hg)
        go_roundw
        case rel =>
          have hbl := grown_below (B := w.heap.size + 1) hgr hB.block gs
          refine ⟨k + 1, by omega, by go_num, ?_, g0.below hbl (by omega), gb.trans (hbl.mono (by omega)), Nat.le_trans gs hbl.size⟩
          rw [range_snoc] at hB5
          rw [List.length_map, List.length_range] at hB5
          exact hB5
        case measure => simp [intOf]; omega
    · have hk64 : k = 64 := by omega
      subst hk64
      obtain ⟨g, cap, rfl, _, _⟩ := World.ownsRow.form hB (by simp)
      rw [show ((List.range 64).map (keyed key c)).length = 64 by simp] at hB ⊢
      have hcv := hB.conv (by simp)
      go_wp2
      go_ret
      exact ⟨rfl, gb⟩
end Go.Proofs.YtfacfbmfnpioeaaDoor
