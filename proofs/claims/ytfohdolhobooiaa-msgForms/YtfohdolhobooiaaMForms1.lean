/-
  MsgForms: the mathematics, and arrays of messages (printed by gen_m16.py).
-/
import Derived.Test.YtfohdolhobooiaaMNum
import Derived.Test.YtfohdolhobooiaaUDoc
namespace Go.Proofs.Ytfohdolhobooiaa
open Go.RowKit S
set_option linter.unusedVariables false
set_option linter.unusedSimpArgs false
open Cu (nb be hl ofL CW Mw CR Mr RS takeS takeA hOf nil8 num doneS)
theorem inv_O {m : Msg} (hk : isO m.kind) (h : m.id ≠ 0 ∨ m.amt ≠ 0 ∨ m.note ≠ nilB ∨ idxB m.idx = false ∨ idxB m.nxt = false) : validM m = false := by
  cases hv : validM m with
  | false => rfl
  | true =>
    exfalso
    rcases valid_forms hv with ⟨h1, _⟩ | ⟨_, he, hi, hn⟩
    · exact notU hk h1
    · have e := (eqM_iff _ _).1 he
      have en : (named m).id = 0 ∧ (named m).amt = 0 ∧ (named m).note = nilB := by
        unfold named
        repeat' split
        all_goals exact ⟨rfl, rfl, rfl⟩
      rcases h with h | h | h | h | h
      · exact h (e.2.1.trans en.1)
      · exact h (e.2.2.1.trans en.2.1)
      · exact h (e.2.2.2.2.2.2.2.trans en.2.2)
      · rw [hi] at h; cases h
      · rw [hn] at h; cases h
def four {α : Type} (m0 m1 m2 m3 : α) (i : Nat) : α := if i = 0 then m0 else if i = 1 then m1 else if i = 2 then m2 else m3
def fM (a b : Int) (h s : Nat → UInt8) : Nat → Msg := four ⟨4, 0, 0, a, 0, h, z32, nilB⟩ ⟨5, 0, 0, a, 0, h, s, nilB⟩ ⟨6, 0, 0, a, b, z32, s, nilB⟩ ⟨7, 0, 0, b, 0, z32, z32, nilB⟩
theorem fM_kind (a b : Int) (h s : Nat → UInt8) (i : Nat) : isO (fM a b h s i).kind ∧ (fM a b h s i).id = 0 ∧ (fM a b h s i).amt = 0 ∧ (fM a b h s i).note = nilB := by
  unfold fM four
  repeat' split
  all_goals exact ⟨by unfold isO; simp, rfl, rfl, rfl⟩
theorem fM_valid (a b : Int) (h s : Nat → UInt8) (ha : idxB a = true) (hb : idxB b = true) (i : Nat) : validM (fM a b h s i) = true := by
  have h0 : idxB 0 = true := rfl
  unfold fM four
  repeat' split
  all_goals (unfold validM isU isO named; simp [eqM_refl, ha, hb, h0])
/-- The text that MsgForms makes itself. -/
def fT (a b : Int) (h s : Nat → UInt8) : Nat → ByteArray := four (⟨#[4]⟩ ++ ofL (nb (U64n a) 8) ++ strOf h 32) (⟨#[5]⟩ ++ ofL (nb (U64n a) 8) ++ strOf s 32 ++ strOf h 32) (⟨#[6]⟩ ++ ofL (nb (U64n a) 8) ++ ofL (nb (U64n b) 8) ++ strOf s 32) (⟨#[7]⟩ ++ ofL (nb (U64n b) 8))
theorem lit_ofL (c : UInt8) : (⟨#[c]⟩ : ByteArray) = ofL [c] := rfl
theorem fT_eq (a b : Int) (h s : Nat → UInt8) (ha : idxB a = true) (hb : idxB b = true) (i : Nat) : fT a b h s i = ofL (bytesM (fM a b h s i)) := by
  unfold fT fM four
  repeat' split
  all_goals (unfold bytesM isU; simp only [lit_ofL, strOf_hl, Cu.ofL_append, U64n_of ha, U64n_of hb, Int.reduceEq, or_self, if_false, if_true, reduceIte, List.append_assoc, List.cons_append, List.nil_append])
theorem I8_u64 (n : Int) (hn : -9223372036854775808 ≤ n ∧ n ≤ 9223372036854775807) (r : List UInt8) : I8 (nb (U64n n) 8 ++ r) = n := by
  unfold I8
  rw [take_app _ _ 8 (Cu.nb_length _ _), be_nb8 _ (by unfold U64n; rw [IntKind.wrap_u64]; omega), IntKind.wrap_i64]
  unfold U64n
  rw [IntKind.wrap_u64]
  omega
theorem out4 (n : Int) (hn : -9223372036854775808 ≤ n ∧ n ≤ 9223372036854775807) (hi : idxB n = false) (h : Nat → UInt8) : rdM ((⟨#[4]⟩ : ByteArray) ++ ofL (nb (U64n n) 8) ++ strOf h 32).data.toList = badM := by
  rw [lit_ofL, strOf_hl, Cu.ofL_append, Cu.ofL_append, Cu.ofL_data, List.append_assoc, List.cons_append, List.nil_append, rdM_other _ _ (by decide) (by decide) (by decide)]
  unfold rdO
  dsimp only
  rw [if_pos rfl, if_neg (fun hh => by rw [I8_u64 n hn, hi] at hh; cases hh.2)]
theorem out6 (a n : Int) (hn : -9223372036854775808 ≤ n ∧ n ≤ 9223372036854775807) (hi : idxB n = false) (h : Nat → UInt8) : rdM ((⟨#[6]⟩ : ByteArray) ++ ofL (nb (U64n a) 8) ++ ofL (nb (U64n n) 8) ++ strOf h 32).data.toList = badM := by
  rw [lit_ofL, strOf_hl, Cu.ofL_append, Cu.ofL_append, Cu.ofL_append, Cu.ofL_data, List.append_assoc, List.append_assoc, List.cons_append, List.nil_append, rdM_other _ _ (by decide) (by decide) (by decide)]
  unfold rdO
  dsimp only
  rw [if_neg (by decide), if_neg (by decide), if_pos rfl, drop_app _ _ 8 (Cu.nb_length _ _), if_neg (fun hh => by rw [I8_u64 n hn, hi] at hh; cases hh.2.2)]
theorem out7 (b : Int) (note : ByteArray) : rdM ((⟨#[7]⟩ : ByteArray) ++ ofL (nb (U64n b) 8) ++ ⟨#[120]⟩ ++ note).data.toList = badM := by
  rw [ByteArray.data_append, Array.toList_append, lit_ofL, lit_ofL 120, Cu.ofL_append, Cu.ofL_append, Cu.ofL_data, List.append_assoc, List.append_assoc, List.cons_append, List.nil_append, rdM_other _ _ (by decide) (by decide) (by decide)]
  unfold rdO
  dsimp only
  rw [if_neg (by decide), if_neg (by decide), if_neg (by decide), if_pos rfl, if_neg (fun hh => by
    have := hh.1
    simp only [List.length_append, Cu.nb_length, List.length_cons, List.length_nil] at this
    omega)]
/-- Arrays of messages. -/
def rowM (F : Nat → Msg) : Nat → Value := fun i => (F (i / 70)).v (i % 70)
theorem rowM_one (F : Nat → Msg) (i : Nat) : (rowM F i).oneCell' = true := oneM _ _
theorem row_atM {w : World} {g n : Nat} {t : TypeId} {F : Nat → Msg} (h : Has w g t (rowM F) (n * 70)) (k : Nat) (hk : k < n) : At w g (k * 70) (F k).v 70 := fun j hj => by
  rw [h.cell (k * 70 + j) (by omega)]
  unfold rowM
  rw [show (k * 70 + j) / 70 = k by omega, show (k * 70 + j) % 70 = j by omega]
set_option maxRecDepth 100000 in
theorem built4M (s0 s1 s2 s3 : Msg) : Try.prog.built 42 [(0, .agg (tabv s0.v 70)), (1, .agg (tabv s1.v 70)), (2, .agg (tabv s2.v 70)), (3, .agg (tabv s3.v 70))] = some (tabv (rowM (four s0 s1 s2 s3)) 280) := by kernel_rfl
set_option maxRecDepth 100000 in
theorem built5M (s : Msg) : Try.prog.built 46 [(0, .agg (tabv s.v 70)), (1, .agg (tabv s.v 70)), (2, .agg (tabv s.v 70)), (3, .agg (tabv s.v 70)), (4, .agg (tabv s.v 70))] = some (tabv (rowM fun _ => s) 350) := by kernel_rfl
theorem info4M : (Try.prog.info? 42).map (·.size) = some 280 := by kernel_rfl
theorem info5M : (Try.prog.info? 46).map (·.size) = some 350 := by kernel_rfl
theorem zero280 : Try.zeroCells42 = tabv (rowM fun _ => Msg.zero) 280 := by kernel_rfl
theorem zero350 : Try.zeroCells46 = tabv (rowM fun _ => Msg.zero) 350 := by kernel_rfl
set_option maxRecDepth 100000 in
theorem bF4 (a : Int) (h : Nat → UInt8) : Try.prog.built 25 [(0, .int .i64 4), (3, .int .i64 a), (5, .agg (tabv (bv h) 32))] = some (tabv (Msg.v ⟨4, 0, 0, a, 0, h, z32, nilB⟩) 70) := by kernel_rfl
set_option maxRecDepth 100000 in
theorem bF5 (a : Int) (h s : Nat → UInt8) : Try.prog.built 25 [(0, .int .i64 5), (3, .int .i64 a), (6, .agg (tabv (bv s) 32)), (5, .agg (tabv (bv h) 32))] = some (tabv (Msg.v ⟨5, 0, 0, a, 0, h, s, nilB⟩) 70) := by kernel_rfl
set_option maxRecDepth 100000 in
theorem bF6 (a b : Int) (s : Nat → UInt8) : Try.prog.built 25 [(0, .int .i64 6), (3, .int .i64 a), (4, .int .i64 b), (6, .agg (tabv (bv s) 32))] = some (tabv (Msg.v ⟨6, 0, 0, a, b, z32, s, nilB⟩) 70) := by kernel_rfl
set_option maxRecDepth 100000 in
theorem bF7 (b : Int) : Try.prog.built 25 [(0, .int .i64 7), (3, .int .i64 b)] = some (tabv (Msg.v ⟨7, 0, 0, b, 0, z32, z32, nilB⟩) 70) := by kernel_rfl
/-- A new array of four messages. -/
theorem new4 (w5 : World) (F : Nat → Msg) : ∃ w6 w7, w5.alloc (.cells Try.zeroCells42 42) = w6 ∧ Has w6 w5.heap.size 42 (rowM fun _ => Msg.zero) 280 ∧ w6.setRow w5.heap.size (tabv (rowM F) 280) = w7 ∧ Has w7 w5.heap.size 42 (rowM F) 280 ∧ Below w5.heap.size w5 w7 := by
  have q1 : Has (w5.alloc (.cells (tabv (rowM fun _ => Msg.zero) 280) 42)) w5.heap.size 42 (rowM fun _ => Msg.zero) 280 := Has.new w5 _ _ 280 _ rfl
  have b1 : Below w5.heap.size w5 (w5.alloc (.cells (tabv (rowM fun _ => Msg.zero) 280) 42)) := (Below.refl w5.heap.size w5).alloc (Nat.le_refl _) _
  exact ⟨_, _, by rw [zero280], q1, rfl, q1.row _ (rowM F) rfl, below_setRow b1 (Nat.le_refl _) _⟩
section
variable {ops : Array Oper} {rest : List Oper} {o : Oper} {a : Act} {w : World} {Q : Exit → Act → World → Prop}
theorem wpList_store4 (hgd : o.guard = none) (x y : Operand) (ho : o.op = .store 42 x y) (hd : o.dst = none) (g : Nat) (F : Nat → Msg) (hx : a.eval x = .pointer (some ⟨g, 0, none⟩)) (hy : a.eval y = .agg (tabv (rowM F) 280)) (f : Nat → Value) (hg : Has w g 42 f 280)
    (hk : wpList Try.prog ops Q rest a (w.setRow g (tabv (rowM F) 280))) : wpList Try.prog ops Q (o :: rest) a w :=
  wpList_store_part hgd 42 x y ho hd g 0 (rowM F) 280 hx hy 42 f 280 hg (by omega) info4M (fun i _ => rowM_one F i) (rowM F) (fun i hi => by unfold splice; rw [if_pos (by omega), Nat.sub_zero]) hk
end
/-- The five that are none. -/
def five (m : Msg) (x : ByteArray) (out : Int) (k : Nat) : Msg :=
  if k = 0 then ⟨m.kind, 1, m.amt, m.idx, m.nxt, m.hash, m.sec, m.note⟩
  else if k = 1 then ⟨m.kind, m.id, -1, m.idx, m.nxt, m.hash, m.sec, m.note⟩
  else if k = 2 then ⟨m.kind, m.id, m.amt, m.idx, m.nxt, m.hash, m.sec, x⟩
  else if k = 3 then ⟨m.kind, m.id, m.amt, out, m.nxt, m.hash, m.sec, m.note⟩
  else ⟨m.kind, m.id, m.amt, m.idx, out, m.hash, m.sec, m.note⟩
theorem five_bad (m : Msg) (x : ByteArray) (out : Int) (hk : isO m.kind) (hx : x ≠ nilB) (ho : idxB out = false) (k : Nat) : validM (five m x out k) = false := by
  unfold five
  by_cases h0 : k = 0
  · rw [if_pos h0]; exact inv_O hk (.inl (by show (1 : Int) ≠ 0; decide))
  by_cases h1 : k = 1
  · rw [if_neg h0, if_pos h1]; exact inv_O hk (.inr (.inl (by show (-1 : Int) ≠ 0; decide)))
  by_cases h2 : k = 2
  · rw [if_neg h0, if_neg h1, if_pos h2]; exact inv_O hk (.inr (.inr (.inl hx)))
  by_cases h3 : k = 3
  · rw [if_neg h0, if_neg h1, if_neg h2, if_pos h3]; exact inv_O hk (.inr (.inr (.inr (.inl ho))))
  · rw [if_neg h0, if_neg h1, if_neg h2, if_neg h3]; exact inv_O hk (.inr (.inr (.inr (.inr ho))))
/-- A cell of an array of messages turned. -/
theorem row_set {w : World} {g n : Nat} {t : TypeId} {F F' : Nat → Msg} (h : Has w g t (rowM F) (n * 70)) (k o : Nat) (v : Value) (hk : k < n) (ho : o < 70) (e1 : ∀ j, j < 70 → (F' k).v j = if j = o then v else (F k).v j) (e2 : ∀ i, i ≠ k → F' i = F i) : Has (w.setCell ⟨g, k * 70 + o, none⟩ v) g t (rowM F') (n * 70) :=
  (h.set (k * 70 + o) v).congr _ (fun i hi => by
    unfold upd rowM
    by_cases e : i = k * 70 + o
    · subst e
      rw [if_pos rfl, show (k * 70 + o) / 70 = k by omega, show (k * 70 + o) % 70 = o by omega, e1 o ho, if_pos rfl]
    · rw [if_neg e]
      by_cases hq : i / 70 = k
      · rw [hq, e1 (i % 70) (by omega), if_neg (by omega)]
      · rw [e2 _ hq])
/-- The first j of them, the rest as it was. -/
def fiveF (m : Msg) (x : ByteArray) (out : Int) (j : Nat) : Nat → Msg := fun k => if k < j then five m x out k else m
theorem fiveF_step {w : World} {g : Nat} {t : TypeId} {m : Msg} {x : ByteArray} {out : Int} (j o : Nat) (v : Value) (h : Has w g t (rowM (fiveF m x out j)) 350) (hj : j < 5) (ho : o < 70) (e : ∀ q, q < 70 → (five m x out j).v q = if q = o then v else m.v q) : Has (w.setCell ⟨g, j * 70 + o, none⟩ v) g t (rowM (fiveF m x out (j + 1))) 350 :=
  row_set (n := 5) h j o v hj ho (fun q hq => by
    unfold fiveF
    rw [if_pos (show j < j + 1 by omega), if_neg (show ¬(j < j) by omega)]
    exact e q hq) (fun i hi => by
    unfold fiveF
    by_cases h2 : i < j
    · rw [if_pos h2, if_pos (by omega)]
    · rw [if_neg h2, if_neg (by omega)])
theorem fe0 (m : Msg) (x : ByteArray) (out : Int) (q : Nat) (hq : q < 70) : (five m x out 0).v q = if q = 1 then .int .i64 1 else m.v q := by
  unfold five Msg.v
  by_cases e : q = 1 <;> simp [e]
theorem fe1 (m : Msg) (x : ByteArray) (out : Int) (q : Nat) (hq : q < 70) : (five m x out 1).v q = if q = 2 then .int .i64 (-1) else m.v q := by
  unfold five Msg.v
  by_cases e : q = 2 <;> simp [e]
theorem fe2 (m : Msg) (x : ByteArray) (out : Int) (q : Nat) (hq : q < 70) : (five m x out 2).v q = if q = 69 then .string x else m.v q := by
  unfold five Msg.v
  by_cases e : q = 69
  · subst e; simp
  · have : q < 69 := by omega
    simp [e, this]
theorem fe3 (m : Msg) (x : ByteArray) (out : Int) (q : Nat) (hq : q < 70) : (five m x out 3).v q = if q = 3 then .int .i64 out else m.v q := by
  unfold five Msg.v
  by_cases e : q = 3 <;> simp [e]
theorem fe4 (m : Msg) (x : ByteArray) (out : Int) (q : Nat) (hq : q < 70) : (five m x out 4).v q = if q = 4 then .int .i64 out else m.v q := by
  unfold five Msg.v
  by_cases e : q = 4 <;> simp [e]
theorem fiveF_cell {w : World} {g : Nat} {t : TypeId} {m : Msg} {x : ByteArray} {out : Int} (j o : Nat) (h : Has w g t (rowM (fiveF m x out j)) 350) (hj : j < 5) (ho : o < 70) : w.cell? ⟨g, j * 70 + o, none⟩ = some (m.v o) := by
  rw [h.cell (j * 70 + o) (by omega)]
  unfold rowM fiveF
  rw [show (j * 70 + o) / 70 = j by omega, show (j * 70 + o) % 70 = o by omega, if_neg (by omega)]
theorem fiveF_all (m : Msg) (x : ByteArray) (out : Int) (k : Nat) (hk : k < 5) : fiveF m x out 5 k = five m x out k := by unfold fiveF; rw [if_pos hk]
end Go.Proofs.Ytfohdolhobooiaa
