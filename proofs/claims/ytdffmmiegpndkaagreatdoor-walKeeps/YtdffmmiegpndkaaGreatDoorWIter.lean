import Derived.Test.YtdffmmiegpndkaaGreatDoorCrcBits
import Derived.Test.YtdffmmiegpndkaaGreatDoorPower
import Derived.Test.YtdffmmiegpndkaaGreatDoorHeap
import Derived.RangeFuncWrites
import Derived.Test.YtdffmmiegpndkaaGreatDoorModel
import Derived.RangeFuncLeaves
import Derived.RangeFuncCalls
import Derived.Shelf.RegionOpen
import Derived.WalkKit
import Derived.OwnWalkIn
import Derived.TacticsInMore
import Derived.LoopNIn
import Derived.LoopIn
/-
  firstNumber: the number that a file's first frame would have.
-/
namespace Go.Proofs.YtdffmmiegpndkaaGreatDoor
open Go.RowKit
set_option linter.unusedVariables false
def firstN (t : Key) : Int := if t.length < 16 then -1 else if 1152921504606846976 ≤ Fr.be ((t.drop 4).take 8) then -1 else (Fr.be ((t.drop 4).take 8) : Int)
theorem or_byte (X : Nat) (hX : X < 256 ^ 7) (c : UInt8) : IntKind.u64.wrap ((X : Int) * (2 : Int) ^ 8) = ((X * 256 : Nat) : Int) ∧ bits .or .u64 ((X * 256 : Nat) : Int) (c.toNat : Int) = ((X * 256 + c.toNat : Nat) : Int) := by
  have hw := Fr.wrap_in .u64 8 rfl rfl
  have hc := c.toNat_lt
  have h64 : (2 : Int) ^ (8 * 8) = 18446744073709551616 := by decide
  have hX' : X < 72057594037927936 := hX
  constructor
  · rw [show (2 : Int) ^ 8 = 256 from rfl, show (X : Int) * 256 = ((X * 256 : Nat) : Int) by omega]
    exact hw _ (by omega) (by rw [h64]; omega)
  · rw [bits_join .u64 (8 * 8) (by decide) hw 8 _ _ (by omega) ?_ (by rw [h64]; omega) (by omega) (by rw [show (2 : Int) ^ 8 = 256 from rfl]; omega) (by rw [h64]; omega)]
    · omega
    · rw [show (2 : Int) ^ 8 = 256 from rfl]; omega
theorem conv_u8_u64 (c : UInt8) (w : World) : (convert 5 123 (.int .u8 (c.toNat : Int))).run Tryz.prog w = .ok (.int .u64 (c.toNat : Int)) w := by
  have h := run_convert_int (P := Tryz.prog) (w := w) 5 123 .u8 (c.toNat : Int) (by kernel_rfl) (by kernel_rfl)
  rw [show Tryz.prog.intKind 123 = .u64 by kernel_rfl] at h
  have hc := c.toNat_lt
  rw [h, show IntKind.u64.wrap (c.toNat : Int) = (c.toNat : Int) by simp [IntKind.wrap, IntKind.bits, IntKind.signed]; omega]
theorem conv_u64_i64 (n : Nat) (hn : n < 1152921504606846976) (w : World) : (convert 123 2 (.int .u64 (n : Int))).run Tryz.prog w = .ok (.int .i64 (n : Int)) w := by
  have h := run_convert_int (P := Tryz.prog) (w := w) 123 2 .u64 (n : Int) (by kernel_rfl) (by kernel_rfl)
  rw [show Tryz.prog.intKind 2 = .i64 by kernel_rfl] at h
  rw [h, show IntKind.i64.wrap (n : Int) = (n : Int) by rw [IntKind.wrap_i64]; omega]
set_option maxRecDepth 5000 in
set_option maxHeartbeats 2000000 in
theorem firstNumber_any (t : ByteArray) (ht : t.size ≤ 281474976710656) (w : World) : Calls Tryz.prog 62 #[.string t] w fun e w' => e = .returned (.int .i64 (firstN t.data.toList)) ∧ w' = w := by
  by_cases h16 : t.size < 16
  · have hd : decide ((t.size : Int) < 16) = true := decide_eq_true (by omega)
    have HE : Hid (firstN t.data.toList = -1) := by show _ = _; unfold firstN; rw [str_len, if_pos h16]
    clear h16 ht
    go_enter Tryz.func62, Tryz.ntmps62
    go_wp2
    go_ret
    exact ⟨by rw [HE.out]; rfl, rfl⟩
  have hd : decide ((t.size : Int) < 16) = false := decide_eq_false (by omega)
  obtain ⟨T, hT⟩ : ∃ T, (t.data.toList.drop 4) = T := ⟨_, rfl⟩
  have hTl : 12 ≤ T.length := by rw [← hT, List.length_drop, str_len]; omega
  have HGET : Hid (∀ k, k < 8 → ∀ w', (Instr.index 9 (.string t) (.int .i64 ((4 + k : Nat) : Int))).run Tryz.prog w' = .ok (.int .u8 ((byteAt T k).toNat : Int)) w') := fun k hk w' => by
    refine run_index_str w' t .i64 (4 + k) _ ?_
    rw [str_get t (4 + k) (by omega), ← hT]
    unfold byteAt
    rw [List.getD_eq_getElem?_getD, List.getD_eq_getElem?_getD, List.getElem?_drop]
  have HTL := hide hTl
  obtain ⟨F, hF⟩ : ∃ F, firstN t.data.toList = F := ⟨_, rfl⟩
  have HFN : Hid (F = if 1152921504606846976 ≤ Fr.be (T.take 8) then -1 else (Fr.be (T.take 8) : Int)) := by
    show _ = _
    rw [← hF]; unfold firstN; rw [str_len, if_neg h16, hT]
  rw [hF]
  have HTZ := hide ht
  clear hT hF hTl h16 ht
  go_enter Tryz.func62, Tryz.ntmps62
  go_wp2
  go_loopw [3, 8] (fun n i wr => ∃ k : Nat, k ≤ 8 ∧ i = .int .i64 (k : Int) ∧ n = .int .u64 ((Fr.be (T.take k) : Nat) : Int) ∧ wr = w) (fun _ i _ => 8 - (intOf i).toNat)
  case atStart => exact ⟨0, by omega, rfl, rfl, rfl⟩
  case round =>
    obtain ⟨k, hk, rfl, rfl, rfl⟩ := hrel
    by_cases hlt : k < 8
    · have dk : decide ((k : Int) < 8) = true := decide_eq_true (by omega)
      have hTl := HTL.out
      obtain ⟨X, hX⟩ : ∃ X, Fr.be (T.take k) = X := ⟨_, rfl⟩
      have hXl : X < 256 ^ 7 := by
        have := Fr.be_lt (T.take k)
        rw [List.length_take, Nat.min_eq_left (by omega), hX] at this
        exact Nat.lt_of_lt_of_le this (Nat.pow_le_pow_right (by decide) (by omega))
      obtain ⟨c, hc⟩ : ∃ c, byteAt T k = c := ⟨_, rfl⟩
      obtain ⟨o1, o2⟩ := or_byte X hXl c
      have hnx : Fr.be (T.take (k + 1)) = X * 256 + c.toNat := by
        have e : T.take (k + 1) = T.take k ++ [c] := by
          rw [List.take_succ_eq_append_getElem (by omega), ← hc]; unfold byteAt; rw [List.getD_eq_getElem?_getD, List.getElem?_eq_getElem (by omega)]; rfl
        rw [e, Fr.be_snoc, hX]
      obtain ⟨XI, hXI⟩ : ∃ x : Int, (X : Int) = x := ⟨_, rfl⟩
      obtain ⟨Y, hY⟩ : ∃ x : Int, ((X * 256 : Nat) : Int) = x := ⟨_, rfl⟩
      obtain ⟨Z, hZ⟩ : ∃ x : Int, ((X * 256 + c.toNat : Nat) : Int) = x := ⟨_, rfl⟩
      obtain ⟨C, hC⟩ : ∃ x : Int, (c.toNat : Int) = x := ⟨_, rfl⟩
      rw [hXI, hY] at o1
      rw [hY, hC, hZ] at o2
      have hix := HGET.out k hlt
      rw [hc, hC, show ((4 + k : Nat) : Int) = 4 + (k : Int) by omega] at hix
      have hcv := conv_u8_u64 c
      rw [hC] at hcv
      have HZ : Hid (((Fr.be (T.take (k + 1)) : Nat) : Int) = Z) := by show _ = _; rw [hnx, hZ]
      have O1 := hide o1
      have O2 := hide o2
      have CV := hide hcv
      have w4 : wrap64 (4 + (k : Int)) = 4 + (k : Int) := by unfold wrap64; omega
      rw [hX, hXI]
      clear hX hXl hc hnx hXI hY hZ hC hcv hTl o1 o2
      go_wp2_with (first | (refine Fr.wpList_shl rfl _ _ _ _ rfl .u64 .u64 XI _ Y (by rfl) (by rfl) 8 rfl (by decide) O1.out ?_) | (refine Fr.wpList_conv rfl _ _ _ rfl .u8 .u64 C _ (by rfl) (CV.out _) ?_) | (refine Fr.wpList_or rfl _ _ _ _ rfl .u64 Y C Z (by rfl) (by rfl) O2.out ?_))
      go_roundw
      case rel => exact ⟨k + 1, by omega, by go_num, by rw [HZ.out], by first | rfl | trivial⟩
      case measure => simp [intOf]; omega
    · have hk8 : k = 8 := by omega
      subst hk8
      obtain ⟨n, hn⟩ : ∃ n, Fr.be (T.take 8) = n := ⟨_, rfl⟩
      have hfn := HFN.out
      rw [hn] at hfn ⊢
      by_cases hb : 1152921504606846976 ≤ n
      · have HF : Hid (F = -1) := by show _ = _; rw [hfn, if_pos hb]
        have dn : decide ((n : Int) ≥ 1152921504606846976) = true := decide_eq_true (by omega)
        have dn' : decide ((1152921504606846976 : Int) ≤ (n : Int)) = true := decide_eq_true (by omega)
        clear hfn hn hb HFN
        go_wp2
        go_ret
        exact ⟨by rw [HF.out]; rfl, rfl⟩
      · have HF : Hid (F = (n : Int)) := by show _ = _; rw [hfn, if_neg hb]
        have dn : decide ((n : Int) ≥ 1152921504606846976) = false := decide_eq_false (by omega)
        have dn' : decide ((1152921504606846976 : Int) ≤ (n : Int)) = false := decide_eq_false (by omega)
        have hcv := conv_u64_i64 n (by omega)
        obtain ⟨NN, hNN⟩ : ∃ x : Int, (n : Int) = x := ⟨_, rfl⟩
        rw [hNN] at hcv dn dn' ⊢
        have CV := hide hcv
        have HNN := hide hNN
        clear hfn hn hb HFN hcv hNN
        go_wp2_with (refine Fr.wpList_conv rfl _ _ _ rfl .u64 .i64 NN _ (by rfl) (CV.out _) ?_)
        go_ret
        exact ⟨by rw [HF.out, HNN.out]; rfl, rfl⟩
end Go.Proofs.YtdffmmiegpndkaaGreatDoor
/-
  A LOG IN MEMORY: its struct, its segments' row. Nothing of the program's calls yet.
-/
namespace Go.Proofs.YtdffmmiegpndkaaGreatDoor
open Go.RowKit
set_option linter.unusedVariables false
structure ASeg where
  num : Int
  size : Int
  fin : Int
structure AL where
  name : ByteArray
  room : Int
  segs : List ASeg
  next : Int
  dead : Bool
def ASeg.cs (s : ASeg) : List Value := [.int .i64 s.num, .int .i64 s.size, .int .i64 s.fin]
def cellsG (gs : List ASeg) : List Value := gs.flatMap ASeg.cs
theorem cellsG_append (a b : List ASeg) : cellsG (a ++ b) = cellsG a ++ cellsG b := List.flatMap_append
theorem cellsG_length (gs : List ASeg) : (cellsG gs).length = 3 * gs.length := by
  induction gs with
  | nil => rfl
  | cons x r ih =>
    show (x.cs ++ cellsG r).length = _
    rw [List.length_append, ih, List.length_cons]
    show 3 + _ = _
    omega
theorem cellsG_get (gs : List ASeg) (i : Nat) (hi : i < gs.length) (j : Nat) (hj : j < 3) : (cellsG gs)[3 * i + j]? = (gs[i]).cs[j]? := by
  induction gs generalizing i with
  | nil => simp at hi
  | cons x r ih =>
    show (x.cs ++ cellsG r)[3 * i + j]? = _
    have hl : x.cs.length = 3 := rfl
    cases i with
    | zero =>
      rw [List.getElem?_append_left (by omega)]
      show x.cs[3 * 0 + j]? = x.cs[j]?
      rw [Nat.mul_zero, Nat.zero_add]
    | succ i =>
      rw [List.getElem?_append_right (by omega), hl, show 3 * (i + 1) + j - 3 = 3 * i + j by omega]
      exact ih i (by simpa using hi)
/-- The row of a slice of segments, in memory of the log's own. -/
structure SegRow (w : World) (v : Value) (gs : List ASeg) (g : Option Nat) : Prop where
  form : ∃ ad cap, v = .slice ad gs.length cap ∧ gs.length ≤ cap ∧ ((ad = none ∧ cap = 0 ∧ g = none) ∨ ∃ b off, ad = some ⟨b, off, none⟩ ∧ g = some b ∧ b < w.heap.size ∧
    (∀ j, j < 3 * gs.length → w.cell? ⟨b, off + j, none⟩ = (cellsG gs)[j]?) ∧ (∀ j, j < 3 * cap → (w.cell? ⟨b, off + j, none⟩).isSome = true) ∧ (∀ j, w.frozen? ⟨b, j, none⟩ = false))
theorem SegRow.nil (w : World) : SegRow w (.slice none 0 0) [] none := ⟨⟨none, 0, rfl, Nat.le_refl _, .inl ⟨rfl, rfl, rfl⟩⟩⟩
theorem frozen_of_block {w w' : World} {b j : Nat} (h : w'.heap[b]? = w.heap[b]?) : w'.frozen? ⟨b, j, none⟩ = w.frozen? ⟨b, j, none⟩ := by
  unfold World.frozen?
  simp only [h]
theorem SegRow.same {w w' : World} {v : Value} {gs : List ASeg} {g : Option Nat} (h : SegRow w v gs g) (e : ∀ b, g = some b → w'.heap[b]? = w.heap[b]?) : SegRow w' v gs g := by
  obtain ⟨ad, cap, hv, h1, h3⟩ := h
  refine ⟨ad, cap, hv, h1, ?_⟩
  rcases h3 with h3 | ⟨b, off, ha, hg, hb, hc, hs, hf⟩
  · exact .inl h3
  · have eb := e b hg
    refine .inr ⟨b, off, ha, hg, ?_, fun j hj => by rw [← hc j hj]; exact World.cell?_of_block eb, fun j hj => by rw [← hs j hj, World.cell?_of_block (a := ⟨b, off + j, none⟩) eb], fun j => by rw [frozen_of_block eb]; exact hf j⟩
    obtain ⟨ob, hob⟩ : ∃ ob, w.heap[b]? = some ob := ⟨_, Array.getElem?_eq_getElem hb⟩
    exact lt_of_some (eb.trans hob)
def logCs (p : Nat) (v : Value) (g : AL) : Array Value := #[.pointer (some ⟨p, 0, none⟩), .string g.name, .int .i64 g.room, v, .int .i64 g.next, .bool g.dead]
structure LogAt (w : World) (l p : Nat) (g : AL) (v : Value) (r : Option Nat) : Prop where
  cells : w.heap[l]? = some (.cells (logCs p v g) 57 (0, 0))
  row : SegRow w v g.segs r
  ne : r ≠ some l
def logFoot (l : Nat) (r : Option Nat) (b : Nat) : Prop := b = l ∨ r = some b
section
variable {w w' : World} {l p : Nat} {g : AL} {v : Value} {r : Option Nat}
theorem LogAt.c0 (h : LogAt w l p g v r) : w.cell? ⟨l, 0, none⟩ = some (.pointer (some ⟨p, 0, none⟩)) := by rw [cell_of_row w l 0 _ _ (0, 0) h.cells]; rfl
theorem LogAt.c1 (h : LogAt w l p g v r) : w.cell? ⟨l, 1, none⟩ = some (.string g.name) := by rw [cell_of_row w l 1 _ _ (0, 0) h.cells]; rfl
theorem LogAt.c2 (h : LogAt w l p g v r) : w.cell? ⟨l, 2, none⟩ = some (.int .i64 g.room) := by rw [cell_of_row w l 2 _ _ (0, 0) h.cells]; rfl
theorem LogAt.c3 (h : LogAt w l p g v r) : w.cell? ⟨l, 3, none⟩ = some v := by rw [cell_of_row w l 3 _ _ (0, 0) h.cells]; rfl
theorem LogAt.c4 (h : LogAt w l p g v r) : w.cell? ⟨l, 4, none⟩ = some (.int .i64 g.next) := by rw [cell_of_row w l 4 _ _ (0, 0) h.cells]; rfl
theorem LogAt.c5 (h : LogAt w l p g v r) : w.cell? ⟨l, 5, none⟩ = some (.bool g.dead) := by rw [cell_of_row w l 5 _ _ (0, 0) h.cells]; rfl
theorem LogAt.fz (h : LogAt w l p g v r) (i : Nat) : w.frozen? ⟨l, i, none⟩ = false := frozen_of_row w l i _ _ h.cells
theorem SegRow.lt {gs : List ASeg} (h : SegRow w v gs r) : ∀ b, r = some b → b < w.heap.size := by
  obtain ⟨ad, cap, hv, h1, h3⟩ := h
  rcases h3 with ⟨_, _, h3⟩ | ⟨b, off, ha, hg, hb, _⟩
  · intro b hb; rw [h3] at hb; cases hb
  · intro b' hb'; rw [hg] at hb'; cases hb'; exact hb
theorem LogAt.lt (h : LogAt w l p g v r) : ∀ b, logFoot l r b → b < w.heap.size := by
  rintro b (rfl | hb)
  · exact lt_of_some h.cells
  · exact h.row.lt b hb
theorem LogAt.same (h : LogAt w l p g v r) (e : ∀ b, logFoot l r b → w'.heap[b]? = w.heap[b]?) : LogAt w' l p g v r :=
  ⟨by rw [e l (.inl rfl)]; exact h.cells, h.row.same (fun b hb => e b (.inr hb)), h.ne⟩
end
def Item.log (l p : Nat) (g : AL) : Item := ⟨fun w S => ∃ v r, LogAt w l p g v r ∧ ∀ b, S b ↔ logFoot l r b, fun w S ⟨v, r, h, hS⟩ b hb => h.lt b ((hS b).1 hb), fun w w' S ⟨v, r, h, hS⟩ e => ⟨v, r, h.same (fun b hb => e b ((hS b).2 hb)), hS⟩⟩
/-- One of the log's cells is stored anew: all else stands. -/
theorem Lies.setLog {B : Nat} {w : World} {L : List Item} {i l p : Nat} {g g' : AL} (h : Lies B w L) (hi : L[i]? = some (.log l p g)) (k : Nat) (x : Value)
    (hk : ∀ v, (logCs p v g).set! k x = logCs p v g') (hs : g'.segs = g.segs) : Lies B (w.setCell ⟨l, k, none⟩ x) (L.set i (.log l p g')) ∧ Below B w (w.setCell ⟨l, k, none⟩ x) := by
  obtain ⟨S, ⟨v, r, hat, hS⟩, hB, _, hu⟩ := h.upd hi
  have hl := lt_of_some hat.cells
  have h1 := heap_setCell_same w l k _ _ x hat.cells
  have h2 : ∀ b, b ≠ l → (w.setCell ⟨l, k, none⟩ x).heap[b]? = w.heap[b]? := fun b hb => Below.heap_setCell w ⟨l, k, none⟩ x b hb
  refine hu _ (.log l p g') S ⟨v, r, ⟨?_, ?_, hat.ne⟩, hS⟩ ⟨⟨rfl, rfl, rfl, by simp [World.setCell], fun b hb hn => ?_⟩, fun b hb => .inl hb⟩
  · rw [← hk v]; exact h1
  · rw [hs]; exact hat.row.same (fun b hb => h2 b (fun e => hat.ne (by rw [hb, e])))
  · exact h2 b (fun e => hn ((hS b).2 (.inl e)))
end Go.Proofs.YtdffmmiegpndkaaGreatDoor
/-
  A RANGE OVER A FUNCTION whose body may turn whatever the invariant says: the law's own two blocks (the deferred calls', the loop's record) are held by the invariant itself. After the proof of the guide's law for bodies that write maps; the kernel checks it.
-/
namespace Go.Proofs.YtdffmmiegpndkaaGreatDoor
open Go.RowKit
def rangePost (I : Obj → Nat → World → Prop) (Ix : Code → Obj → World → Prop) (ob : Obj) (k : Nat) : Exit → Act → World → Prop
  | .normal, _, W' => I ob k W'
  | .ret, _, W' => Ix .ret ob W'
  | .exit id, _, W' => Ix (.exit id) ob W'
  | .goto t, _, W' => Ix (.goto t) ob W'
  | .panic _, _, _ => False
  | .outgrown, _, _ => False
theorem wp_rangeFunc_held {P : Program} {g : Operand} {ps : Array Tmp} {assign body : Code} {Q : Exit → Act → World → Prop} {a : Act} {w : World} (n : Nat) (h1 : 1 ≤ n)
    {gf : Nat} {lb : Array Value} (hg : a.eval g = .func (.func gf) #[] lb) (eg : ∀ args w, (callFunc gf args).run P w = .ok (.enter gf args) w)
    (encs : Nat → Array Value) (N : Nat) (hps : ∀ k, (encs k).size = ps.size)
    (I : Obj → Nat → World → Prop) (Ix : Code → Obj → World → Prop)
    (hI : ∀ ob k W, I ob k W → W.heap[w.heap.size + 1]? = some ob ∧ W.heap[w.heap.size]? = some (.deferred (some [])))
    (hIp : ∀ ob ob' k W, I ob k W → I ob' k (W.putObj (w.heap.size + 1) ob'))
    (hX : ∀ c ob W, Ix c ob W → W.heap[w.heap.size + 1]? = some ob ∧ W.heap[w.heap.size]? = some (.deferred (some [])))
    (hXp : ∀ c ob ob' W, Ix c ob W → Ix c ob' (W.putObj (w.heap.size + 1) ob'))
    (h0 : ∀ ob, I ob 0 ((w.alloc (.deferred (some []))).alloc ob))
    (hseq : ∀ (ob : Obj) (Jx : World → Prop),
      (∀ k W1, k < N → I ob k W1 → YieldAt Fence.wide (n - 1 - 1) P (w.heap.size + 1) (encs k) W1 fun e W' => (e = .returned (.bool true) ∧ I ob (k + 1) W') ∨ (e = .returned (.bool false) ∧ Jx W')) →
      ∀ W, I ob 0 W → CallsIn Fence.wide (n - 1) P gf (#[.func (.yield (w.heap.size + 1)) #[] #[]] ++ lb) W fun e W' => (∃ v, e = .returned v) ∧ (I ob N W' ∨ Jx W'))
    (a₁ : Nat → Act)
    (hassign : ∀ (k : Nat) (W : World) (K : Act → World → Prop), K (a₁ k) W →
      assign.wpIn (Fence.wide.inRound (w.heap.size + 1)) (n - 1 - 1) P (Exit.then K (fun _ _ _ => False)) { tmps := (ps.zip (encs k)).foldl (fun t (p, v) => t.setIfInBounds p v) a.tmps, defers := [] } W)
    (hbody : ∀ ob k W, k < N → I ob k W → body.wpIn (Fence.wide.inRound (w.heap.size + 1)) (n - 1 - 1) P (rangePost I Ix ob (k + 1)) (a₁ k) W)
    (hdone : ∀ ob W, I ob N W → Q .normal { a with defers := { target := .collected w.heap.size, args := #[] } :: a.defers } W)
    (hstop : ∀ c ob W, Ix c ob W → c.wpIn Fence.wide n P Q { a with defers := { target := .collected w.heap.size, args := #[] } :: a.defers } W) :
    (Code.rangeFunc g ps assign body).wpIn Fence.wide n P Q a w := by
  refine wpIn_rangeFunc ?_
  intro fn hfn
  rw [show Fence.wide.round = none from rfl]
  obtain ⟨rec, hrec⟩ : ∃ rec : LoopState → Option Code → Loop, rec = fun st pe => { state := st, pending := pe, fn, tmps := a.tmps, params := ps, assign, body, defers := w.heap.size } := ⟨_, rfl⟩
  obtain ⟨W1, hW1⟩ : ∃ W1, (w.alloc (.deferred (some []))).alloc (.loop (rec .ready none)) = W1 := ⟨_, rfl⟩
  have hI1 : I (.loop (rec .ready none)) 0 W1 := by rw [← hW1]; exact h0 _
  refine ⟨w.heap.size + 1, [{ target := .collected w.heap.size, args := #[] }], W1, { target := .fn (.func gf) lb, args := #[.func (.yield (w.heap.size + 1)) #[] #[]] }, W1, gf,
    #[.func (.yield (w.heap.size + 1)) #[] #[]] ++ lb, W1, ?_, ?_, ?_, ?_, fun _ => h1, ?_⟩
  · rw [← hW1, hrec]; exact run_enterLoop_outer _ _ _ _ _
  · simp only [resolve, hg]
    simp [go_sem]
  · intro f' hf'; trivial
  · simp [invoke, go_sem, eg]
  · refine (hseq (.loop (rec .ready none)) (fun W => ∃ c, Ix c (.loop (rec .done (some c))) W) ?_ W1 hI1).mono ?_
    · intro k W hk hi
      obtain ⟨hl, hd⟩ := hI _ _ _ hi
      have hy := run_yield (P := P) (args := encs k) hl (by rw [hrec]; exact hps k)
      rw [hrec] at hy
      refine ⟨fn, _, assign, body, hy, roundIn_of_wpIn hfn (hassign k W _ ⟨_, run_beginRound hl (by rw [hrec]), ?_⟩)⟩
      refine wpIn_mono (hbody (.loop { rec .ready none with state := .busy }) k _ hk (hIp _ _ _ _ hi)) ?_
      have fin : ∀ (jump : Option Code) (W3 : World), W3.heap[w.heap.size + 1]? = some (.loop { rec .ready none with state := .busy }) →
          (Instr.endRound (w.heap.size + 1) jump).run P W3 = .ok (.bool jump.isNone) (W3.putObj (w.heap.size + 1) (.loop (rec (if jump.isNone then .ready else .done) jump))) := fun jump W3 hl3 => by
        have := run_endRound (P := P) jump hl3
        rw [hrec] at this ⊢
        exact this
      rintro e a3 W3 hp
      cases e with
      | normal => exact ⟨_, _, fin none W3 (hI _ _ _ hp).1, .inl ⟨rfl, hIp _ _ _ _ hp⟩⟩
      | ret => exact ⟨_, _, fin (some .ret) W3 (hX _ _ _ hp).1, .inr ⟨rfl, .ret, hXp _ _ _ _ hp⟩⟩
      | exit id => exact ⟨_, _, fin (some (.exit id)) W3 (hX _ _ _ hp).1, .inr ⟨rfl, .exit id, hXp _ _ _ _ hp⟩⟩
      | goto t => exact ⟨_, _, fin (some (.goto t)) W3 (hX _ _ _ hp).1, .inr ⟨rfl, .goto t, hXp _ _ _ _ hp⟩⟩
      | panic ch => exact hp.elim
      | outgrown => exact hp.elim
    · rintro e W2 ⟨⟨v, rfl⟩, (hi | ⟨c, hi⟩)⟩
      · exact ⟨none, _, by have := run_endLoop (P := P) (hI _ _ _ hi).1 (by rw [hrec]; simp); rw [hrec] at this; exact this, hdone _ _ (hIp _ _ _ _ hi)⟩
      · exact ⟨some c, _, by have := run_endLoop (P := P) (hX _ _ _ hi).1 (by rw [hrec]; simp); rw [hrec] at this; exact this, hstop c _ _ (hXp _ _ _ _ hi)⟩
end Go.Proofs.YtdffmmiegpndkaaGreatDoor
/-
  inOrder: the segments one behind the other, told to a loop's body.
-/
namespace Go.Proofs.YtdffmmiegpndkaaGreatDoor
open Go.RowKit
set_option linter.unusedVariables false
attribute [local go_sem] Oper.semAt_some
theorem inOrder_any (l : Nat) (w : World) : Calls Tryz.prog 31 #[.pointer (some ⟨l, 0, none⟩)] w fun e w' => e = .returned (.func (.func 55) #[] #[.pointer (some ⟨w.heap.size, 0, none⟩)]) ∧ w' = w.alloc (.cells #[.pointer (some ⟨l, 0, none⟩)] 29) := by
  go_enter Tryz.func31, Tryz.ntmps31
  go_wp2
  go_ret
  exact ⟨rfl, rfl⟩
/-- What the iterator reads between the rounds. -/
structure View (bx l : Nat) (ad : Option Addr) (b off N cap : Nat) (nums : Nat → Int) (W : World) : Prop where
  box : W.cell? ⟨bx, 0, none⟩ = some (.pointer (some ⟨l, 0, none⟩))
  c3 : W.cell? ⟨l, 3, none⟩ = some (.slice ad N cap)
  seg : ∀ k, k < N → ∃ z f, W.cell? ⟨b, off + k * 3, none⟩ = some (.int .i64 (nums k)) ∧ W.cell? ⟨b, off + k * 3 + 1, none⟩ = some (.int .i64 z) ∧ W.cell? ⟨b, off + k * 3 + 2, none⟩ = some (.int .i64 f)
def encs (b off : Nat) (F : Nat → ByteArray) (k : Nat) : Array Value := #[.pointer (some ⟨b, off + k * 3, none⟩), .string (F k)]
theorem two_ways {e : Ending} {p q : Prop} (h : (e = .returned (.bool true) ∧ p) ∨ (e = .returned (.bool false) ∧ q)) : ∃ bb, e = .returned (.bool bb) ∧ ((bb = true ∧ p) ∨ (bb = false ∧ q)) := by
  rcases h with ⟨h, k⟩ | ⟨h, k⟩
  · exact ⟨true, h, .inl ⟨rfl, k⟩⟩
  · exact ⟨false, h, .inr ⟨rfl, k⟩⟩
set_option maxRecDepth 100000 in
set_option maxHeartbeats 2000000 in
theorem iter_in (m y : Nat) (hm : 1 ≤ m) (bx l b off N cap : Nat) (ad : Option Addr) (had : 0 < N → ad = some ⟨b, off, none⟩) (hN : N ≤ 10000000) (nums : Nat → Int) (F : Nat → ByteArray) (I : Nat → World → Prop) (Jx : World → Prop)
    (hv : ∀ k W, I k W → View bx l ad b off N cap nums W)
    (hs : ∀ k W W', I k W → Below W.heap.size W W' → I k W')
    (hfile : ∀ k W z f, k < N → I k W → Calls Tryz.prog 36 #[.pointer (some ⟨l, 0, none⟩), .agg #[.int .i64 (nums k), .int .i64 z, .int .i64 f]] W fun e W' => e = .returned (.string (F k)) ∧ Below W.heap.size W W')
    (hY : ∀ k W, k < N → I k W → YieldAt Fence.wide (m - 1) Tryz.prog y (encs b off F k) W fun e W' => (e = .returned (.bool true) ∧ I (k + 1) W') ∨ (e = .returned (.bool false) ∧ Jx W'))
    (W : World) (h0 : I 0 W) :
    CallsIn Fence.wide m Tryz.prog 55 #[.func (.yield y) #[] #[], .pointer (some ⟨bx, 0, none⟩)] W fun e W' => (∃ v, e = .returned v) ∧ (I N W' ∨ Jx W') := by
  have hvw := hv 0 W h0
  have hc0 := hvw.box
  have hc3 := hvw.c3
  refine callsIn_of_wp Tryz.func55 rfl trivial ?_ rfl
  simp only [Tryz.ntmps55, List.size_toArray, List.length_cons, List.length_nil, Nat.reduceAdd, Nat.reduceSub, Array.replicate_succ, Array.replicate_zero, List.push_toArray, List.append_toArray, List.nil_append, List.cons_append]
  gi_wp2
  gi_loopw [10] (fun i wr => ∃ k : Nat, k ≤ N ∧ i = .int .i64 (k : Int) ∧ I k wr) (fun i _ => N - (intOf i).toNat)
  case atStart => exact ⟨0, by omega, rfl, h0⟩
  case round =>
    clear hvw hc0 hc3
    obtain ⟨k, hk, rfl, hi⟩ := hrel
    by_cases hlt : k < N
    · have dk : decide ((k : Int) < (N : Int)) = true := decide_eq_true (by omega)
      have hk0 : (0 : Int) ≤ (k : Int) := by omega
      have hk1 : (k : Int) < (N : Int) := by omega
      have hvk := hv k wr hi
      obtain rfl := had (by omega)
      have hc0 := hvk.box
      have hc3 := hvk.c3
      obtain ⟨z, f, s0, s1, s2⟩ := hvk.seg k hlt
      have hmx : Tryz.prog.follows .mixedOrders = true := by kernel_rfl
      have h70 : Fence.wide.fn 36 := trivial
      have hid : I k wr.drew := hs k wr _ hi (Below.refl _ _).drew
      gi_wp2
      gi_region_with_o (first | (gi_at_call 36; refine ((callsIn_wide (n := _)).2 (hfile k _ z f hlt hid)).mono ?_; rintro e w1 ⟨rfl, hb1⟩; obtain ⟨fn, tmps, asg, bdy, hy, hR⟩ := hY k w1 hlt (hs k _ _ hid hb1); unfold encs at hy) | (refine hR.mono ?_; rintro e W3 hW3; obtain ⟨bb, rfl, hbb⟩ := two_ways hW3))
      all_goals
      · rcases hbb with ⟨rfl, hi3⟩ | ⟨rfl, hx3⟩
        · gi_wp2
          go_roundw
          case rel => exact ⟨k + 1, by omega, by go_num, hi3⟩
          case measure => simp [intOf]; omega
        · gi_wp2
          refine bodyPost_ret (results_none rfl _ _ _) rfl ?_
          exact ⟨⟨_, rfl⟩, .inr hx3⟩
    · have hkn : k = N := by omega
      subst hkn
      have dk : decide ((k : Int) < (k : Int)) = false := decide_eq_false (by omega)
      gi_wp2
      go_end0
      exact ⟨⟨_, rfl⟩, .inl hi⟩
end Go.Proofs.YtdffmmiegpndkaaGreatDoor
