import Derived.Test.YtdffmmiegpndkaaGreatDoorWIter
import Derived.Test.YtdffmmiegpndkaaGreatDoorShelfS
import Derived.Laws.Concat
/-
  A log whose slice of segments is named; the two blocks of a range over a function, held beside the rest.
-/
namespace Go.Proofs.YtdffmmiegpndkaaGreatDoor
open Go.RowKit
set_option linter.unusedVariables false
def Item.logv (l p : Nat) (g : AL) (v : Value) : Item := ⟨fun w S => ∃ r, LogAt w l p g v r ∧ ∀ b, S b ↔ logFoot l r b, fun w S ⟨r, h, hS⟩ b hb => h.lt b ((hS b).1 hb), fun w w' S ⟨r, h, hS⟩ e => ⟨r, h.same (fun b hb => e b ((hS b).2 hb)), hS⟩⟩
section
variable {B : Nat} {w : World} {L : List Item} {i j l p : Nat} {g : AL} {v : Value}
theorem Lies.pin (h : Lies B w L) (hj : L[j]? = some (.log l p g)) : ∃ v, Lies B w (L.set j (.logv l p g v)) := by
  obtain ⟨S, ⟨v, r, hat, hS⟩, hB, _, hu⟩ := h.upd hj
  exact ⟨v, (hu w (.logv l p g v) S ⟨r, hat, hS⟩ (Step.refl _ _)).1⟩
theorem Lies.unpin (h : Lies B w L) (hj : L[j]? = some (.logv l p g v)) : Lies B w (L.set j (.log l p g)) := by
  obtain ⟨S, ⟨r, hat, hS⟩, hB, _, hu⟩ := h.upd hj
  exact (hu w (.log l p g) S ⟨v, r, hat, hS⟩ (Step.refl _ _)).1
theorem Lies.logv (h : Lies B w L) (hj : L[j]? = some (.logv l p g v)) : ∃ r, LogAt w l p g v r ∧ B ≤ l := by
  obtain ⟨S, ⟨r, hat, hS⟩, hB⟩ := h.get hj
  exact ⟨r, hat, hB l ((hS l).2 (.inl rfl))⟩
theorem Lies.atBlock {q b : Nat} {ob : Obj} (h : Lies B w L) (hi : L[q]? = some (.block b ob)) : w.heap[b]? = some ob := by
  obtain ⟨S, hp, _⟩ := h.get hi
  exact hp.1
theorem Lies.toBlock {q b : Nat} {ob ob' : Obj} {w' : World} (h : Lies B w L) (hi : L[q]? = some (.block b ob)) (hn : w'.heap[b]? = some ob') (ht : Turn (fun x => x = b) w w') : Lies B w' (L.set q (.block b ob')) ∧ Below B w w' := by
  obtain ⟨S, hp, hB, _, hk⟩ := h.upd hi
  exact hk w' (.block b ob') (fun x => x = b) ⟨hn, fun _ => Iff.rfl⟩ ⟨ht.mono (fun x hx => (hp.2 x).2 hx), fun x hx => .inl ((hp.2 x).2 hx)⟩
theorem turn_putObj (w : World) (b : Nat) (ob : Obj) : Turn (fun x => x = b) w (w.putObj b ob) :=
  ⟨rfl, rfl, rfl, by simp [World.putObj], fun x _ hn => World.putObj_heap_other hn⟩
theorem Lies.newCells (h : Lies B w L) (cs : Array Value) (T : TypeId) : Lies B (w.alloc (.cells cs T)) (L ++ [.block w.heap.size (.cells cs T (0, 0))]) ∧ Below B w (w.alloc (.cells cs T)) :=
  ⟨h.push (S' := fun x => x = w.heap.size) ((Below.refl _ _).alloc (Nat.le_refl _) _) ⟨heap_alloc_new w _, fun _ => Iff.rfl⟩ (fun x hx => by rw [hx]; exact Nat.le_refl _), (Below.refl _ _).alloc h.base _⟩
theorem get_tail {α : Type} (M X : List α) (n : Nat) : (M ++ X)[M.length + n]? = X[n]? := by rw [List.getElem?_append_right (by omega), Nat.add_sub_cancel_left]
theorem get_head {α : Type} {M X : List α} {q : Nat} {y : α} (h : M[q]? = some y) : (M ++ X)[q]? = some y := by
  rw [List.getElem?_append_left (List.getElem?_eq_some_iff.1 h).1]; exact h
theorem Lies.cellAt {q b : Nat} {cs : Array Value} {T : TypeId} (h : Lies B w L) (hi : L[q]? = some (.block b (.cells cs T (0, 0)))) (k : Nat) : w.cell? ⟨b, k, none⟩ = cs[k]? := cell_of_row w b k _ _ (0, 0) (h.atBlock hi)
theorem Lies.frozenAt {q b : Nat} {cs : Array Value} {T : TypeId} (h : Lies B w L) (hi : L[q]? = some (.block b (.cells cs T (0, 0)))) (k : Nat) : w.frozen? ⟨b, k, none⟩ = false := frozen_of_row w b k _ _ (h.atBlock hi)
/-- A cell of a held block is stored anew. -/
theorem Lies.setAt {q b : Nat} {cs : Array Value} {T : TypeId} (h : Lies B w L) (hi : L[q]? = some (.block b (.cells cs T (0, 0)))) (k : Nat) (x : Value) : Lies B (w.setCell ⟨b, k, none⟩ x) (L.set q (.block b (.cells (cs.setIfInBounds k x) T (0, 0)))) ∧ Below B w (w.setCell ⟨b, k, none⟩ x) :=
  h.toBlock hi (heap_setCell_same w b k _ _ x (h.atBlock hi)) (Turn.setCell w ⟨b, k, none⟩ x)
/-- Some of the items. -/
theorem Lies.choose {M : List Item} (h : Lies B w L) (f : Nat → Nat) (hf : ∀ i j, i < M.length → j < M.length → f i = f j → i = j) (hM : ∀ i (x : Item), M[i]? = some x → L[f i]? = some x) : Lies B w M := by
  obtain ⟨hb, S, h1, h2, h3⟩ := h
  have lt : ∀ i, i < M.length → f i < L.length := fun i hi => (List.getElem?_eq_some_iff.1 (hM i M[i] (List.getElem?_eq_getElem hi))).1
  exact ⟨hb, fun i => S (f i), fun i x hi => h1 (f i) x (hM i x hi), fun i b hi hs => h2 (f i) b (lt i hi) hs, fun i j b hi hj hne => h3 (f i) (f j) b (lt i hi) (lt j hj) (fun e => hne (hf i j hi hj e))⟩
/-- The head, and one of what is behind it. -/
theorem Lies.keep1 {X : List Item} {n : Nat} {x : Item} (h : Lies B w (L ++ X)) (hx : X[n]? = some x) : Lies B w (L ++ [x]) := by
  refine h.choose (fun i => if i < L.length then i else L.length + n) (fun i j hi hj e => ?_) (fun i y hy => ?_)
  · simp only [List.length_append, List.length_singleton] at hi hj
    by_cases h1 : i < L.length
    · by_cases h2 : j < L.length
      · simpa [h1, h2] using e
      · simp only [h1, h2, if_true, if_false] at e; omega
    · by_cases h2 : j < L.length
      · simp only [h1, h2, if_true, if_false] at e; omega
      · omega
  · by_cases h1 : i < L.length
    · simp only [h1, if_true]
      rw [List.getElem?_append_left h1] at hy ⊢
      exact hy
    · simp only [h1, if_false]
      have hl := (List.getElem?_eq_some_iff.1 hy).1
      simp only [List.length_append, List.length_singleton] at hl
      have : i = L.length + 0 := by omega
      subst this
      rw [get_tail] at hy ⊢
      rw [hx]
      simpa using hy
/-! ### the law's two blocks, at the end of the list -/
theorem held_get {D P : Nat} {d ob : Obj} (h : Lies B w (L ++ [.block D d, .block P ob])) : w.heap[P]? = some ob ∧ w.heap[D]? = some d :=
  ⟨h.atBlock (q := L.length + 1) (by rw [List.getElem?_append_right (by omega)]; simp), h.atBlock (q := L.length) (by rw [List.getElem?_append_right (by omega)]; simp)⟩
theorem held_put {D P : Nat} {d ob : Obj} (ob' : Obj) (h : Lies B w (L ++ [.block D d, .block P ob])) : Lies B (w.putObj P ob') (L ++ [.block D d, .block P ob']) ∧ Below B w (w.putObj P ob') := by
  have hg := (held_get h).1
  have := h.toBlock (q := L.length + 1) (b := P) (ob := ob) (ob' := ob') (by rw [List.getElem?_append_right (by omega)]; simp) (World.putObj_heap_same (Array.getElem?_eq_some_iff.1 hg).1) (turn_putObj w P ob')
  rw [List.set_append_right _ _ (by omega), Nat.add_sub_cancel_left] at this
  exact this
theorem held_new (h : Lies B w L) (d ob : Obj) : Lies B ((w.alloc d).alloc ob) (L ++ [.block w.heap.size d, .block (w.heap.size + 1) ob]) ∧ Below B w ((w.alloc d).alloc ob) := by
  have e1 : (w.alloc d).heap[w.heap.size]? = some d := World.alloc_heap_new w d
  have h1 : Lies B (w.alloc d) (L ++ [.block w.heap.size d]) := h.push (S' := fun b => b = w.heap.size) ((Below.refl _ _).alloc (Nat.le_refl _) _) ⟨e1, fun _ => Iff.rfl⟩ (fun b hb => by rw [hb]; exact Nat.le_refl _)
  have hz : (w.alloc d).heap.size = w.heap.size + 1 := World.size_alloc w d
  have e2 : ((w.alloc d).alloc ob).heap[w.heap.size + 1]? = some ob := by
    have := World.alloc_heap_new (w.alloc d) ob
    rwa [hz] at this
  have h2 := h1.push (it := .block (w.heap.size + 1) ob) (S' := fun b => b = w.heap.size + 1) ((Below.refl (w.alloc d).heap.size (w.alloc d)).alloc (Nat.le_refl _) ob) ⟨e2, fun _ => Iff.rfl⟩ (fun b hb => by rw [hb, hz]; exact Nat.le_refl _)
  rw [List.append_assoc] at h2
  exact ⟨h2, (((Below.refl _ _).alloc (Nat.le_refl _) d).alloc (by rw [hz]; omega) ob).mono h.base⟩
/-- Behind the loop the two blocks are let go. -/
theorem held_drop {D P : Nat} {d ob : Obj} (h : Lies B w (L ++ [.block D d, .block P ob])) (d' : Obj) : Lies B (w.putObj D d') L ∧ Below B w (w.putObj D d') := by
  have hg := (held_get h).2
  obtain ⟨h1, h2⟩ := h.toBlock (q := L.length) (b := D) (ob := d) (ob' := d') (by rw [List.getElem?_append_right (by omega)]; simp) (World.putObj_heap_same (Array.getElem?_eq_some_iff.1 hg).1) (turn_putObj w D d')
  rw [List.set_append_right _ _ (by omega), Nat.sub_self] at h1
  exact ⟨Lies.drop (M := [.block D d', .block P ob]) h1, h2⟩
end
end Go.Proofs.YtdffmmiegpndkaaGreatDoor
/-
  A log's name.
-/
namespace Go.Proofs.YtdffmmiegpndkaaGreatDoor
open Go.RowKit Go.Maps
def lnameOk (k : Key) : Bool := decide (1 ≤ k.length) && decide (k.length ≤ 24) && k.all chOk
theorem lnameOk_eq (l : Key) : lnameOk l = (decide (1 ≤ l.length) && decide (l.length ≤ 24) && l.all chOk) := rfl
set_option maxHeartbeats 800000 in
theorem wName_any (s : ByteArray) (w : World) : Calls Tryz.prog 19 #[.string s] w fun e w' => e = .returned (.bool (lnameOk s.data.toList)) ∧ w' = w := by
  rw [lnameOk_eq, str_len]
  by_cases h1 : s.size < 1
  · have hd : decide ((s.size : Int) < 1) = true := decide_eq_true (by omega)
    have hn : (decide (1 ≤ s.size) && decide (s.size ≤ 24) && s.data.toList.all chOk) = false := by
      rw [decide_eq_false (by omega : ¬ 1 ≤ s.size)]; rfl
    rw [hn]
    go_enter Tryz.func19, Tryz.ntmps19
    go_wp2
    go_ret
    exact ⟨rfl, rfl⟩
  · have hd : decide ((s.size : Int) < 1) = false := decide_eq_false (by omega)
    by_cases h2 : 24 < s.size
    · have hd2 : decide ((24 : Int) < (s.size : Int)) = true := decide_eq_true (by omega)
      have hn : (decide (1 ≤ s.size) && decide (s.size ≤ 24) && s.data.toList.all chOk) = false := by
        rw [decide_eq_false (by omega : ¬ s.size ≤ 24), Bool.and_false]; rfl
      rw [hn]
      go_enter Tryz.func19, Tryz.ntmps19
      go_wp2
      go_ret
      exact ⟨rfl, rfl⟩
    · have hd2 : decide ((24 : Int) < (s.size : Int)) = false := decide_eq_false (by omega)
      have hn : (decide (1 ≤ s.size) && decide (s.size ≤ 24) && s.data.toList.all chOk) = s.data.toList.all chOk := by
        rw [decide_eq_true (by omega : 1 ≤ s.size), decide_eq_true (by omega : s.size ≤ 24)]; rfl
      rw [hn]
      obtain ⟨n, hsn⟩ : ∃ n, s.size = n := ⟨_, rfl⟩
      have hn24 : n ≤ 24 := by omega
      have HL : Hid (s.data.toList.length = n) := by show _ = _; rw [str_len, hsn]
      have HG : Hid (∀ i, i < n → s[i]? = some (byteAt s.data.toList i)) := fun i hi => str_get s i (by omega)
      clear hn h1 h2
      rw [hsn] at hd hd2
      go_enter Tryz.func19, Tryz.ntmps19
      go_wp2
      go_loopw [14] (fun i wr => ∃ k : Nat, k ≤ n ∧ i = .int .i64 (k : Int) ∧ (∀ j, j < k → chOk (byteAt s.data.toList j) = true) ∧ wr = w) (fun i _ => n - (intOf i).toNat)
      case atStart => exact ⟨0, by omega, rfl, fun j hj => absurd hj (by omega), rfl⟩
      case round =>
        obtain ⟨k, hk, rfl, hall, rfl⟩ := hrel
        have HA := hide hall
        clear hall
        by_cases hlt : k < n
        · have hx : ∀ w' : World, (Instr.index 9 (.string s) (.int .i64 (k : Int))).run Tryz.prog w' = .ok (.int .u8 ((byteAt s.data.toList k).toNat : Int)) w' := fun w' => run_index_str w' s .i64 k _ (HG.out k hlt)
          have hd3 : decide ((k : Int) < (n : Int)) = true := decide_eq_true (by omega)
          obtain ⟨c, hc⟩ : ∃ c, byteAt s.data.toList k = c := ⟨_, rfl⟩
          rw [hc] at hx
          have HC := hide hc
          clear hc
          by_cases b1 : c.toNat < 33
          · have e1 : decide ((c.toNat : Int) < 33) = true := decide_eq_true (by omega)
            have HB : Hid (s.data.toList.all chOk = false) := by
              show _ = false
              rw [← Bool.not_eq_true, all_at]
              intro h
              have := h k (by rw [HL.out]; exact hlt)
              rw [HC.out] at this
              simp [chOk] at this
              omega
            go_wp2
            go_ret
            exact ⟨by rw [HB.out]; rfl, rfl⟩
          · have e1 : decide ((c.toNat : Int) < 33) = false := decide_eq_false (by omega)
            by_cases b2 : 126 < c.toNat
            · have e2 : decide ((126 : Int) < (c.toNat : Int)) = true := decide_eq_true (by omega)
              have HB : Hid (s.data.toList.all chOk = false) := by
                show _ = false
                rw [← Bool.not_eq_true, all_at]
                intro h
                have := h k (by rw [HL.out]; exact hlt)
                rw [HC.out] at this
                simp [chOk] at this
                omega
              go_wp2
              go_ret
              exact ⟨by rw [HB.out]; rfl, rfl⟩
            · have e2 : decide ((126 : Int) < (c.toNat : Int)) = false := decide_eq_false (by omega)
              have HB : Hid (chOk c = true) := by show _ = true; simp [chOk]; omega
              clear b1 b2
              go_wp2
              go_roundw
              case rel =>
                refine ⟨k + 1, by omega, by go_num, fun j hj => ?_, by first | rfl | trivial⟩
                by_cases e : j = k
                · rw [e, HC.out]; exact HB.out
                · exact HA.out j (by omega)
              case measure => simp [intOf]; omega
        · have hkn : k = n := by omega
          subst hkn
          have hd3 : decide ((k : Int) < (k : Int)) = false := decide_eq_false (by omega)
          have HB : Hid (s.data.toList.all chOk = true) := by
            show _ = true
            rw [all_at]
            intro i hi
            rw [HL.out] at hi
            exact HA.out i hi
          go_wp2
          go_ret
          exact ⟨by rw [HB.out]; rfl, rfl⟩
end Go.Proofs.YtdffmmiegpndkaaGreatDoor
/-
  A SEGMENT's FILE NAME, and the number that a file's name tells.
-/
namespace Go.Proofs.YtdffmmiegpndkaaGreatDoor
open Go.RowKit Go.Maps
set_option linter.unusedVariables false
def fileL (k : Key) (n : Int) : Key := k ++ 46 :: Lib.itoa n
def fileB (b : ByteArray) (n : Int) : ByteArray := ⟨(fileL b.data.toList n).toArray⟩
/-- What the library's tables and errors hold, in blocks below B. -/
structure Env (B : Nat) (w : World) : Prop where
  tab : Lib.TabIs Tryz.prog w "internal/strconv.uint64pow10" .u64 Lib.pow10Tab
  syn : ∃ tp p, w.var? Tryz.prog "strconv.ErrSyntax" = some #[.iface tp p]
  rng : ∃ tp p, w.var? Tryz.prog "strconv.ErrRange" = some #[.iface tp p]
  low : Tryz.prog.globals.size ≤ B
theorem var_below {B : Nat} {w w' : World} {n : String} {g : Nat} (hg : Tryz.prog.globalNamed n = some g) (hB : g < B) (hb : Below B w w') : w'.var? Tryz.prog n = w.var? Tryz.prog n := by
  unfold World.var?
  rw [hg]
  show (match w'.heap[g]? with | some (.cells cs _ _) => some cs | _ => none) = (match w.heap[g]? with | some (.cells cs _ _) => some cs | _ => none)
  rw [hb.block g hB]
theorem gPow : Tryz.prog.globalNamed "internal/strconv.uint64pow10" = some 2 := by kernel_rfl
theorem gSyn : Tryz.prog.globalNamed "strconv.ErrSyntax" = some 0 := by kernel_rfl
theorem gRng : Tryz.prog.globalNamed "strconv.ErrRange" = some 1 := by kernel_rfl
theorem gSize : Tryz.prog.globals.size = 6 := by kernel_rfl
theorem Env.below {B : Nat} {w w' : World} (h : Env B w) (hb : Below B w w') : Env B w' := by
  have hl := h.low
  rw [gSize] at hl
  refine ⟨?_, ?_, ?_, h.low⟩
  · unfold Lib.TabIs; rw [var_below gPow (by omega) hb]; exact h.tab
  · rw [var_below gSyn (by omega) hb]; exact h.syn
  · rw [var_below gRng (by omega) hb]; exact h.rng
theorem grow_below (w : World) (k : Nat) (os : Array Obj) : Below w.heap.size w (Sort.grow (w.drewN k) os) := by
  refine ⟨rfl, rfl, rfl, ?_, fun b hb => ?_⟩
  · show w.heap.size ≤ (w.heap ++ os).size
    simp
  · show (w.heap ++ os)[b]? = w.heap[b]?
    rw [Array.getElem?_append_left hb]
theorem itoa_any (n : Int) (h0 : -9223372036854775808 ≤ n) (h1 : n ≤ 9223372036854775807) {B : Nat} (w : World) (he : Env B w) :
    Calls Tryz.prog 66 #[.int .i64 n] w fun e w' => e = .returned (.string ⟨(Lib.itoa n).toArray⟩) ∧ Below w.heap.size w w' :=
  (Any.strconv_Itoa Tryz.laysItoa n h0 h1 w he.tab).mono (fun e w' ⟨he, k, os, hw⟩ => ⟨he, by rw [hw]; exact grow_below w k os⟩)
theorem decDigits_length : ∀ n k : Nat, n < 10 ^ (k + 1) → (Lib.decDigits n).length ≤ k + 1
  | n, 0, h => by
    rw [Lib.decDigits]
    rw [dif_pos (by omega)]
    simp
  | n, k + 1, h => by
    rw [Lib.decDigits]
    split
    · simp
    · rw [List.length_append, List.length_singleton]
      have := decDigits_length (n / 10) k (by rw [Nat.pow_succ] at h; omega)
      omega
theorem itoa_length {n : Int} (h0 : 0 ≤ n) (h1 : n ≤ 10000000) : (Lib.itoa n).length ≤ 8 := by
  unfold Lib.itoa
  rw [if_neg (by omega)]
  exact decDigits_length n.toNat 7 (by omega)
theorem fileB_size {b : ByteArray} {n : Int} (h : b.size ≤ 24) (h0 : 0 ≤ n) (h1 : n ≤ 10000000) : (fileB b n).size ≤ 33 := by
  show (fileL b.data.toList n).toArray.size ≤ 33
  have := itoa_length h0 h1
  unfold fileL
  rw [List.size_toArray, List.length_append, List.length_cons, str_len]
  omega
theorem fileB_list (b : ByteArray) (n : Int) : (fileB b n).data.toList = fileL b.data.toList n := rfl
set_option maxRecDepth 100000 in
set_option maxHeartbeats 2000000 in
theorem file_any {B : Nat} (l : Nat) (n z f : Int) (nm : ByteArray) (w : World) (hc : w.cell? ⟨l, 1, none⟩ = some (.string nm)) (hl : l < w.heap.size) (hnm : nm.size ≤ 24) (h0 : 0 ≤ n) (h1 : n ≤ 10000000) (he : Env B w) (hB : B ≤ w.heap.size) :
    Calls Tryz.prog 36 #[.pointer (some ⟨l, 0, none⟩), .agg #[.int .i64 n, .int .i64 z, .int .i64 f]] w fun e w' => e = .returned (.string (fileB nm n)) ∧ Below w.heap.size w w' := by
  have hln := itoa_length h0 h1
  have HX : Hid (nm ++ ⟨#[46]⟩ ++ ⟨(Lib.itoa n).toArray⟩ = fileB nm n) := by
    show _ = _
    unfold fileB fileL
    have e : nm = ⟨nm.data.toList.toArray⟩ := rfl
    conv => lhs; rw [e]
    rw [show (⟨#[46]⟩ : ByteArray) = ⟨[46].toArray⟩ from rfl, ByteArray.mk_append_mk, ByteArray.mk_append_mk]
    simp
  have hadd : ∀ w : World, (Op.stringOp .add nm ⟨#[46]⟩).run Tryz.prog w = .ok (.string (nm ++ ⟨#[46]⟩)) w := fun w => run_string_add_sum w nm ⟨#[46]⟩ (by show nm.size + 1 ≤ _; omega)
  have hadd2 : ∀ w : World, (Op.stringOp .add (nm ++ ⟨#[46]⟩) ⟨(Lib.itoa n).toArray⟩).run Tryz.prog w = .ok (.string (nm ++ ⟨#[46]⟩ ++ ⟨(Lib.itoa n).toArray⟩)) w := fun w => run_string_add_sum w _ _ (by
    rw [ByteArray.size_append]; show nm.size + 1 + (Lib.itoa n).toArray.size ≤ _; rw [List.size_toArray]; omega)
  have HA := hide hadd
  have HA2 := hide hadd2
  have HC := hide hc
  have HE := hide he
  clear hadd hadd2 hc he hln
  go_enter Tryz.func36, Tryz.ntmps36
  go_wp2
  have hb0 : Below w.heap.size w (w.alloc (.cells #[.int .i64 n, .int .i64 z, .int .i64 f] 66)) := (Below.refl _ _).alloc (Nat.le_refl _) _
  have hg0 : (w.alloc (.cells #[.int .i64 n, .int .i64 z, .int .i64 f] 66)).cell? ⟨w.heap.size, 0, none⟩ = some (.int .i64 n) := by
    rw [cell_of_row _ w.heap.size 0 _ _ (0, 0) (heap_alloc_new w _)]; rfl
  refine wp_region_noPanic ?_
  refine wp_region_held_drew (S := fun wx => wx.cell? ⟨l, 1, none⟩ = some (.string nm) ∧ wx.cell? ⟨w.heap.size, 0, none⟩ = some (.int .i64 n) ∧ Env B wx ∧ Below w.heap.size w wx) (by kernel_rfl) (⟨(by rw [World.cell?_of_block (hb0.block l hl)]; exact HC.out), hg0, (HE.out.below (hb0.mono hB)).below (Below.refl _ _).drew, hb0.drew⟩) (fun hHeld => ?_)
  refine tK 0 (some 5) (.pointer (some ⟨l, 0, none⟩)) rfl hHeld ?_
  simp only [Act.put, pA, pB, pC]
  refine tK 1 (some 6) (.pointer (some ⟨l, 0, none⟩)) rfl hHeld ?_
  simp only [Act.put, pA, pB, pC]
  refine tK 2 (some 7) (.pointer (some ⟨l, 1, none⟩)) rfl hHeld ?_
  simp only [Act.put, pA, pB, pC]
  refine tH 3 (some 8) (.string nm) rfl (fun w hw => by have hw1 := hw.1; first | rfl | (go_simp; done) | (go_simp; rfl)) hHeld ?_
  simp only [Act.put, pA, pB, pC]
  refine tH 4 (some 9) (.string (nm ++ ⟨#[46]⟩)) rfl (fun w hw => by have ha := HA.out; first | rfl | (go_simp; done) | (go_simp; rfl)) hHeld ?_
  simp only [Act.put, pA, pB, pC]
  refine tK 5 (some 10) (.pointer (some ⟨w.heap.size, 0, none⟩)) rfl hHeld ?_
  simp only [Act.put, pA, pB, pC]
  refine tH 6 (some 11) (.int .i64 n) rfl (fun w hw => by have hw1 := hw.2.1; first | rfl | (go_simp; done) | (go_simp; rfl)) hHeld ?_
  simp only [Act.put, pA, pB, pC]
  refine rdH 7 rfl (fun K hK => ?_)
  go_simp
  refine (itoa_any n (by omega) (by omega) _ hHeld.2.2.1).mono ?_
  rintro e x1 ⟨rfl, hb⟩
  try go_wp2_with fail
  refine hK.out _ _ (⟨by rw [World.cell?_of_block (hb.block l (Nat.lt_of_lt_of_le hl hHeld.2.2.2.size))]; exact hHeld.1, by rw [World.cell?_of_block (hb.block w.heap.size (World.block_lt_of_cell? _ _ hHeld.2.1))]; exact hHeld.2.1, hHeld.2.2.1.below (hb.mono (Nat.le_trans hB hHeld.2.2.2.size)), hHeld.2.2.2.trans (hb.mono hHeld.2.2.2.size)⟩) (fun hH => ?_)
  clear hK K hHeld
  have hHeld := hH
  clear hH
  refine tH 8 (some 13) (.string (nm ++ ⟨#[46]⟩ ++ ⟨(Lib.itoa n).toArray⟩)) rfl (fun w hw => by have ha := HA2.out; first | rfl | (go_simp; done) | (go_simp; rfl)) hHeld ?_
  simp only [Act.put, pA, pB, pC]
  refine tK 9 (some 4) (.string (nm ++ ⟨#[46]⟩ ++ ⟨(Lib.itoa n).toArray⟩)) rfl hHeld ?_
  simp only [Act.put, pA, pB, pC]
  refine ⟨by kernel_rfl, ?_⟩
  refine NoPanic.normal ?_
  go_wp2
  go_ret
  refine ⟨?_, hHeld.2.2.2⟩
  rw [HX.out]; rfl

/-! ### the number of a file's name -/
def numOf (f k : Key) : Option Int :=
  if Lib.hasPrefix f (k ++ [46]) then
    match Lib.atoiAll (f.drop (k.length + 1)) with
    | .ok v => if 0 ≤ v ∧ v ≤ 9999999 ∧ Lib.itoa v = f.drop (k.length + 1) then some v else none
    | _ => none
  else none
theorem atoi_any (s : ByteArray) (hs : s.size ≤ 1000) {B : Nat} (w : World) (he : Env B w) :
    Calls Tryz.prog 78 #[.string s] w fun e w' => ∃ x ev, e = .returned (.tuple #[.int .i64 x, ev]) ∧ ((ev = .nilIface ∧ Lib.atoiAll s.data.toList = .ok x) ∨ ((∃ t p, ev = .iface t p) ∧ ∀ v, Lib.atoiAll s.data.toList ≠ .ok v)) ∧ Below w.heap.size w w' := by
  cases h : Lib.atoiAll s.data.toList with
  | ok v =>
    refine (Any.strconv_Atoi_ok Tryz.laysAtoi s (by omega) v h w).mono ?_
    rintro e w' ⟨rfl, hw⟩
    refine ⟨v, _, rfl, .inl ⟨rfl, rfl⟩, ?_⟩
    rcases hw with rfl | ⟨t, rfl⟩
    · exact Below.refl _ _
    · exact Lib.bytesWorld_below _ _ _
  | «syntax» =>
    obtain ⟨tp, p, hv⟩ := he.syn
    refine (Any.strconv_Atoi_syntax_var Tryz.laysAtoi s (by omega) h tp p w hv).mono ?_
    rintro e w' ⟨N, rfl, _, _, hb⟩
    exact ⟨_, _, rfl, .inr ⟨⟨_, _, rfl⟩, fun v hv => by cases hv⟩, hb⟩
  | range =>
    obtain ⟨tp, p, hv⟩ := he.rng
    refine (Any.strconv_Atoi_range_var Tryz.laysAtoi s (by omega) h tp p w hv).mono ?_
    rintro e w' ⟨N, rfl, _, _, hb⟩
    exact ⟨_, _, rfl, .inr ⟨⟨_, _, rfl⟩, fun v hv => by cases hv⟩, hb⟩
end Go.Proofs.YtdffmmiegpndkaaGreatDoor
