/-
  The walk of CrcTells.
-/
import Derived.Test.YtjlbglinkacdiaaRanges
import Derived.Test.YtjlbglinkacdiaaTellsMath
import Derived.Deep.AppendSrc
import Derived.Laws.BytesArg
namespace Go.Proofs.Ytjlbglinkacdiaa
open Go.RowKit C
theorem info5 : (Try.prog.info? 5).map (fun i => (i.zero, i.size, i.bytes)) = some (some (.int .u8 0), 1, 1) := by kernel_rfl
def byteV (c : UInt8) : Value := .int .u8 (c.toNat : Int)
/-- Block g of w begins with the bytes l. -/
def HasL (w : World) (g : Nat) (l : List UInt8) : Prop := ∃ cur : Array Value, w.heap[g]? = some (.cells cur 5 (0, 0)) ∧ cur.toList.take l.length = l.map byteV
theorem HasL.cell {w : World} {g : Nat} {l : List UInt8} (h : HasL w g l) (i : Nat) (c : UInt8) (hi : l[i]? = some c) : w.cell? ⟨g, i, none⟩ = some (byteV c) := by
  obtain ⟨cur, hg, hc⟩ := h
  have hlt : i < l.length := (List.getElem?_eq_some_iff.1 hi).1
  rw [cell_of_row w g i cur 5 (0, 0) hg]
  have h1 : (cur.toList.take l.length)[i]? = (l.map byteV)[i]? := by rw [hc]
  rw [List.getElem?_take_of_lt hlt, List.getElem?_map, hi] at h1
  rw [← Array.getElem?_toList, h1]; rfl
theorem HasL.frozen {w : World} {g : Nat} {l : List UInt8} (h : HasL w g l) (i : Nat) : w.frozen? ⟨g, i, none⟩ = false := by
  obtain ⟨cur, hg, _⟩ := h
  exact frozen_of_row w g i cur 5 hg
theorem HasL.set {w : World} {g : Nat} {l : List UInt8} (h : HasL w g l) (i : Nat) (c : UInt8) : HasL (w.setCell ⟨g, i, none⟩ (byteV c)) g (l.set i c) := by
  obtain ⟨cur, hg, hc⟩ := h
  refine ⟨cur.setIfInBounds i (byteV c), heap_setCell_same w g i cur 5 _ hg, ?_⟩
  rw [Array.toList_setIfInBounds, List.length_set, List.take_set, hc, List.map_set]
theorem HasL.below {w w' : World} {b g : Nat} {l : List UInt8} (h : HasL w g l) (hb : Below b w w') (hg : g < b) : HasL w' g l := by
  obtain ⟨cur, h1, h2⟩ := h
  exact ⟨cur, by rw [hb.block g hg]; exact h1, h2⟩
theorem HasL.lt {w : World} {g : Nat} {l : List UInt8} (h : HasL w g l) : g < w.heap.size := by
  obtain ⟨cur, h1, _⟩ := h
  rcases Nat.lt_or_ge g w.heap.size with h | h
  · exact h
  · rw [Array.getElem?_eq_none h] at h1; cases h1
/-- string(c) -/
theorem HasL.conv {w : World} {g : Nat} {l : List UInt8} (h : HasL w g l) (len cap : Nat) (hl : l.length = len) : (convert 29 9 (.slice (some ⟨g, 0, none⟩) len cap)).run Try.prog w = .ok (.string ⟨l.toArray⟩) w := by
  have hr := run_convert_bytes_arg w 29 5 Try.underlying29 Try.underlying5 g 0 len cap (l.map fun c => (c.toNat : Int)) (by simpa using hl) (fun i hi => by
    have hi' : i < l.length := by omega
    rw [Nat.zero_add, h.cell i l[i] (List.getElem?_eq_getElem hi')]
    simp [hi', byteV]) 9 Try.underlying9
  rw [hr]
  congr 3
  simp only [strOfNums, List.map_map, Function.comp_def, Int.toNat_natCast]
  simp
theorem run_append_str (w : World) (b : ByteArray) (hb : 0 < b.size) (hl : b.size ≤ 140737488351232) (ty : TypeId) :
    ∃ cap w', (Builtin.append_ #[29, 9] ty #[.slice none 0 0, .string b]).run Try.prog w = .ok (.slice (some ⟨w.heap.size, 0, none⟩) b.size cap) w' ∧ HasL w' w.heap.size b.data.toList ∧ Below w.heap.size w w' := by
  obtain ⟨i0, hi0, hz0, hz1, hz2⟩ := info_parts info5
  have hsrc : Src Try.prog i0.size 9 (.string b) b.size (byteCells b) w := by rw [hz1]; exact Src.ofString w Try.underlying9 b
  have hr := run_append_grow_src (P := Try.prog) w 29 9 ty 5 i0 (.int .u8 0) Try.underlying29 hi0 hz0 none 0 0 [] (run_firstCells_none w.drew i0.size 0 0 0) (.string b) b.size (byteCells b) hsrc (by omega) (by omega) (by
    rw [hz2, Nat.zero_add, Nat.mul_one]
    rw [nextslicecap_zero hb]; omega)
  rw [Nat.zero_add] at hr
  refine ⟨_, _, hr, ⟨_, heap_alloc_new w.drew _, ?_⟩, (Below.refl _ _).drew.alloc (Nat.le_refl _) _⟩
  rw [Array.toList_append, List.nil_append]
  have e : b.data.toList.length = (byteCells b).length := by simp [byteCells]
  rw [e]
  simp only []
  rw [List.take_left']
  · rfl
  · rfl
theorem wpList_append_str {ops : Array Oper} {rest : List Oper} {o : Oper} {a : Act} {w : World} {Q : Exit → Act → World → Prop} (hgd : o.guard = none) (s x : Operand)
    (ho : o.op = .call { callee := .builtin .append, args := #[s, x], argTypes := #[29, 9] }) (b : ByteArray) (hs : a.eval s = .slice none 0 0) (hx : a.eval x = .string b) (hb : 0 < b.size) (hl : b.size ≤ 140737488351232)
    (h : ∀ cap w', HasL w' w.heap.size b.data.toList → Below w.heap.size w w' → wpList Try.prog ops Q rest (a.put o.dst (.slice (some ⟨w.heap.size, 0, none⟩) b.size cap)) w') : wpList Try.prog ops Q (o :: rest) a w := by
  obtain ⟨cap, w', hr, h1, h2⟩ := run_append_str w b hb hl o.type
  refine wpList_plain hgd fun K hK => ?_
  unfold Oper.wp execOp
  simp only [ho, resolve, invoke, builtin, Sem.run_bind, Sem.run_pure, Result.andThen_ok, List.map_toArray, List.map_cons, List.map_nil, hs, hx, hr]
  exact hK _ _ (h cap w' h1 h2)
theorem not_empty (b : ByteArray) (h : 0 < b.size) : b.toList.isEmpty = false := by
  have e : b.size = b.data.toList.length := by rw [Array.length_toList]; rfl
  rw [ByteArray.toList_eq]
  cases hl : b.data.toList with
  | nil => rw [hl] at e; simp only [List.length_nil] at e; omega
  | cons _ _ => rfl
theorem at_nat (z : Int) (s : Nat) (h : 0 < s) (hs : s ≤ 140737488351232) : ∃ p : Nat, wrap64 ((IntKind.u64.wrap z).tmod (s : Int)) = (p : Int) ∧ p < s := by
  have hw : 0 ≤ IntKind.u64.wrap z := by rw [IntKind.wrap_u64]; omega
  have h1 : (IntKind.u64.wrap z).tmod (s : Int) = IntKind.u64.wrap z % (s : Int) := Int.tmod_eq_emod_of_nonneg hw
  have h2 := Int.emod_nonneg (IntKind.u64.wrap z) (show (s : Int) ≠ 0 by omega)
  have h3 := Int.emod_lt_of_pos (IntKind.u64.wrap z) (show (0 : Int) < (s : Int) by omega)
  rw [h1]
  generalize IntKind.u64.wrap z % (s : Int) = r at h2 h3
  refine ⟨r.toNat, ?_, by omega⟩
  rw [Int.toNat_of_nonneg h2]
  unfold wrap64; omega
theorem size_len (a : ByteArray) : a.size = a.data.toList.length := by rw [Array.length_toList]; rfl
theorem u8_xor_byte (x y : UInt8) : bits .xor .u8 (x.toNat : Int) (y.toNat : Int) = ((x ^^^ y).toNat : Int) := by
  rw [u8_xor_nat x.toNat y.toNat x.toNat_lt y.toNat_lt, UInt8.toNat_xor]
theorem some0_next (f : Nat → UInt8) (k : Nat) : some0 f (k + 1) = (some0 f k || ((f k).toNat : Int) != 0) := by
  show (some0 f k || f k != 0) = _
  congr 1
  rw [Bool.eq_iff_iff, bne_iff_ne, bne_iff_ne, Ne, Ne, ← UInt8.toNat_inj]
  simp
/-- Byte i of x. -/
def fr (x : BitVec 32) (i : Nat) : UInt8 := UInt8.ofNat (x.toNat / 2 ^ (8 * i))
theorem fr_num (n : Num) (x : BitVec 32) (k : Nat) : n.u x / (2 : Int) ^ (8 * k) % 256 = ((fr x k).toNat : Int) := by
  unfold fr
  rw [n.eq, UInt8.toNat_ofNat']
  simp
set_option maxHeartbeats 800000 in
theorem crcTells_num (n : Num) (b : ByteArray) (z : Int) (x : BitVec 32) (lb : b.size ≤ 140737488351232) (hb0 : 0 < b.size) (_hz0 : -9223372036854775808 ≤ z) (_hz1 : z ≤ 9223372036854775807) (w : World) :
    Calls Try.prog 4 #[.string b, .int .i64 z, .int .u32 (n.u x)] w fun e w' => e = .returned (.bool true) ∧ Below w.heap.size w w' := by
  have hne := not_empty b hb0
  have hx0 := n.nonneg x
  have hx1 := n.lt x
  go_enter Try.func4, Try.ntmps4
  go_wp2_with fail
  refine (first_any n _).mono ?_
  rintro e w1 ⟨rfl, hb1⟩
  go_wp2_with (at_builtin; refine wpList_append_str rfl _ _ rfl b (by rfl) (by rfl) hb0 lb ?_; intro cap w2 hL hb2)
  obtain ⟨p, hp, hpl⟩ := at_nat z b.size hb0 lb
  rw [hp]
  clear hp
  go_loopw [8, 9] (fun ch i wr => ∃ k : Nat, k ≤ 4 ∧ p + k ≤ b.size ∧ i = .int .i64 k ∧ ch = .bool (some0 (fr x) k) ∧ HasL wr w1.heap.size (over b.data.toList p (fr x) k) ∧ Below w1.heap.size w1 wr) (fun _ i _ => 4 - (intOf i).toNat)
  case atStart => exact ⟨0, by omega, by omega, rfl, rfl, by rw [over_zero]; exact hL, hb2⟩
  case round =>
    obtain ⟨k, hk, hpk, rfl, rfl, hc, hbw⟩ := hrel
    by_cases hlt : k < 4 ∧ p + k < b.size
    · obtain ⟨hl4, hlp⟩ := hlt
      have hd : decide ((k : Int) < 4) = true := by simp; omega
      have hd2 : decide ((p : Int) + (k : Int) < (b.size : Int)) = true := by simp; omega
      have hlen : p + k < b.data.toList.length := by simpa using hlp
      obtain ⟨cb, hcb⟩ : ∃ cb : UInt8, b.data.toList[p + k] = cb := ⟨_, rfl⟩
      have hat := over_at b.data.toList p (fr x) k hlen
      rw [hcb] at hat
      have hcell : wr.cell? ⟨w1.heap.size, p + k, none⟩ = some (.int .u8 (cb.toNat : Int)) := hc.cell (p + k) _ hat
      have hfr := fr_num n x k
      have HB := hide hcb
      clear hcb hat
      have hfro := hc.frozen (p + k)
      have hrel : HasL (wr.setCell ⟨w1.heap.size, p + k, none⟩ (.int .u8 (bits .xor .u8 (cb.toNat : Int) ((fr x k).toNat : Int)))) w1.heap.size (over b.data.toList p (fr x) (k + 1)) := by
        have h1 := hc.set (p + k) (cb ^^^ fr x k)
        have h2 := over_succ b.data.toList p (fr x) k hlen
        rw [HB.out] at h2
        rw [h2] at h1
        rw [u8_xor_byte]
        exact h1
      cases hs : some0 (fr x) k
      · have HS := hide hs
        go_wp2
        go_roundw
        case rel => exact ⟨k + 1, by omega, by omega, by go_num, by rw [some0_next, HS.out, Bool.false_or], hrel, hbw.setCell (by simp) _⟩
        case measure => simp [intOf]; omega
      · have HS := hide hs
        go_wp2
        go_roundw
        case rel => exact ⟨k + 1, by omega, by omega, by go_num, by rw [some0_next, HS.out, Bool.true_or], hrel, hbw.setCell (by simp) _⟩
        case measure => simp [intOf]; omega
    · have hcv := hc.conv b.size cap (by rw [over_length]; simp)
      have hol : (ByteArray.mk (over b.data.toList p (fr x) k).toArray).size ≤ maxLen := by
        rw [size_len]; simp only []; rw [over_length, ← size_len]; unfold maxLen; omega
      have hbl : b.size ≤ maxLen := by unfold maxLen; omega
      have hti : (n.u (on 0#32 (over b.data.toList p (fr x) k)) != n.u (on 0#32 b.data.toList)) = some0 (fr x) k := by
        rw [← tells_iff b.data.toList p (fr x) k hk (by rw [← size_len]; exact hpk)]
        show (!(n.u _ == n.u _)) = (!(_ == _))
        rw [n.beq]
      by_cases h4 : k < 4
      · have hd : decide ((k : Int) < 4) = true := by simp; omega
        have hd2 : decide ((p : Int) + (k : Int) < (b.size : Int)) = false := by simp; omega
        go_wp2_with fail
        refine (sum_any n _ _ hol).mono ?_
        rintro e w3 ⟨rfl, hb3⟩
        go_wp2_with fail
        refine (sum_any n b _ hbl).mono ?_
        rintro e w4 ⟨rfl, hb4⟩
        go_wp2
        go_ret
        have t3 := hbw.trans (hb3.mono hbw.size)
        have t4 := t3.trans (hb4.mono t3.size)
        exact ⟨rfl, hb1.trans (t4.mono hb1.size)⟩
      · have hd : decide ((k : Int) < 4) = false := by simp; omega
        go_wp2_with fail
        refine (sum_any n _ _ hol).mono ?_
        rintro e w3 ⟨rfl, hb3⟩
        go_wp2_with fail
        refine (sum_any n b _ hbl).mono ?_
        rintro e w4 ⟨rfl, hb4⟩
        go_wp2
        go_ret
        have t3 := hbw.trans (hb3.mono hbw.size)
        have t4 := t3.trans (hb4.mono t3.size)
        exact ⟨rfl, hb1.trans (t4.mono hb1.size)⟩
set_option maxHeartbeats 800000 in
theorem crcTells_empty (n : Num) (b : ByteArray) (z : Int) (x : BitVec 32) (he : b.toList.isEmpty = true) (w : World) :
    Calls Try.prog 4 #[.string b, .int .i64 z, .int .u32 (n.u x)] w fun e w' => e = .returned (.bool true) ∧ Below w.heap.size w w' := by
  go_enter Try.func4, Try.ntmps4
  go_wp2_with fail
  refine (first_any n _).mono ?_
  rintro e w1 ⟨rfl, hb1⟩
  go_wp2
  go_ret
  exact ⟨rfl, hb1⟩
theorem crcTells_walk (a0 : ByteArray) (a1 : Int) (a2 : Int) (w0 : a0.size ≤ 140737488351232) (w1 : (Lit.int .i64 a1).wf = true) (w2 : (Lit.int .u32 a2).wf = true) (w : World) :
    Calls Try.prog 4 #[.string a0, .int .i64 a1, .int .u32 a2] w fun e w' => e = .returned (.bool true) ∧ Below w.heap.size w w' := by
  obtain ⟨h0, h1⟩ := i64_range a1 w1
  obtain ⟨h2, h3⟩ := u32_range a2 w2
  rw [num.mk_of a2 h2 h3]
  by_cases hb : 0 < a0.size
  · exact crcTells_num num a0 a1 _ w0 hb h0 h1 w
  · refine crcTells_empty num a0 a1 _ ?_ w
    have e := size_len a0
    rw [ByteArray.toList_eq, List.isEmpty_iff, ← List.length_eq_zero_iff]
    omega
end Go.Proofs.Ytjlbglinkacdiaa
