import Derived.Test.YtlohfoggcdaeiaaGreatCurLay
import Derived.Test.YtlohfoggcdaeiaaGreatSStep
import Derived.Deep.RegionHeld3
import Derived.BigQuiet
/-
  The document's own side of layer 9.
-/
namespace Go.Proofs.YtlohfoggcdaeiaaGreat
set_option maxRecDepth 20000
open Go.RowKit S
set_option linter.unusedVariables false
def isN (n : Int) : Bool := decide (0 ≤ n) && decide (n ≤ 281474976710655)
theorem isN_iff (n : Int) : isN n = true ↔ 0 ≤ n ∧ n ≤ 281474976710655 := by unfold isN; simp
theorem rgood_any (n : Int) (w : World) : Calls Tryz.prog 87 #[.int .i64 n] w fun e w' => e = .returned (.bool (isN n)) ∧ w' = w := by
  by_cases h : 0 ≤ n
  · have e : isN n = decide (n ≤ 281474976710655) := by simp [isN, h]
    rw [e]
    go_enter Tryz.func87, Tryz.ntmps87
    go_wp2
    go_ret
    simp
  · have e : isN n = false := by simp [isN, h]
    rw [e]
    go_enter Tryz.func87, Tryz.ntmps87
    go_wp2
    go_ret
    simp
/-- A place's bits, the lowest first. -/
def placeV (p : Nat) : Nat → Value := fun i => .int .i64 ((p / 2 ^ i % 2 : Nat) : Int)
def placeUp (p k : Nat) : Nat → Value := fun i => if i < k then placeV p i else .int .i64 0
theorem placeUp_next (p k : Nat) : upd (placeUp p k) k (.int .i64 ((p / 2 ^ k % 2 : Nat) : Int)) = placeUp p (k + 1) := by
  funext i
  unfold upd placeUp
  by_cases h : i = k
  · subst h; rw [if_pos rfl, if_pos (by omega)]; rfl
  · rw [if_neg h]
    by_cases h2 : i < k
    · rw [if_pos h2, if_pos (by omega)]
    · rw [if_neg h2, if_neg (by omega)]
theorem info48 : (Tryz.prog.info? 150).map (·.size) = some 48 := by kernel_rfl
set_option maxRecDepth 100000 in
set_option maxHeartbeats 1000000 in
theorem rplace_any (p : Nat) (hp : p ≤ 281474976710655) (w : World) : Calls Tryz.prog 89 #[.int .i64 (281474976710655 - (p : Int))] w fun e w' => e = .returned (.agg (tabv (placeV p) 48)) ∧ Below w.heap.size w w' := by
  go_enter Tryz.func89, Tryz.ntmps89
  go_wp2
  generalize hW : World.alloc (World.alloc w _) _ = w3
  have g0 : Has w3 w.heap.size 150 (fun _ => .int .i64 0) 48 := by rw [← hW]; exact (Has.new w 150 (fun _ => .int .i64 0) 48 _ rfl).old _
  have g1 : Has w3 (w.heap.size + 1) 150 (placeUp p 0) 48 := by
    rw [← hW]
    have := (Has.new (w.alloc (.cells (tabv (fun _ => .int .i64 0) 48) 150)) 150 (fun _ => .int .i64 0) 48 _ rfl).congr (placeUp p 0) (fun i _ => by unfold placeUp; rw [if_neg (by omega)])
    rw [size_alloc] at this
    exact this
  have gb : Below w.heap.size w w3 := by rw [← hW]; exact ((Below.refl w.heap.size w).alloc (Nat.le_refl _) _).alloc (by simp) _
  clear hW
  go_loopw [4, 5] (fun q i wr => ∃ k : Nat, k ≤ 48 ∧ i = .int .i64 k ∧ q = .int .i64 ((p / 2 ^ k : Nat) : Int) ∧ Has wr w.heap.size 150 (fun _ => .int .i64 0) 48 ∧ Has wr (w.heap.size + 1) 150 (placeUp p k) 48 ∧ Below w.heap.size w wr) (fun q i _ => 48 - (intOf i).toNat)
  case atStart => exact ⟨0, by omega, rfl, by congr 1; simp; omega, g0, g1, gb⟩
  case round =>
    clear g0 g1 gb
    obtain ⟨k, hk, rfl, rfl, g0, g1, gb⟩ := hrel
    by_cases hlt : k < 48
    · obtain ⟨m, hm⟩ : ∃ m, p / 2 ^ k = m := ⟨_, rfl⟩
      rw [hm]
      have c0 := g1.cell k hlt
      have f0 := g1.frozen k
      have hd : decide ((k : Int) < 48) = true := by simp; omega
      have hk0 : (0 : Int) ≤ (k : Int) := by omega
      have hk1 : (k : Int) < 48 := by omega
      have e1 : (m : Int).tmod 2 = ((m % 2 : Nat) : Int) := by rw [Int.tmod_eq_emod_of_nonneg (by omega)]; omega
      have e2 : (m : Int).tdiv 2 = ((m / 2 : Nat) : Int) := by rw [Int.tdiv_eq_ediv_of_nonneg (by omega)]; omega
      have hmle : m ≤ 281474976710655 := by rw [← hm]; exact Nat.le_trans (Nat.div_le_self _ _) hp
      have HM := hide hm
      clear hm
      go_wp2
      go_roundw
      case rel =>
        refine ⟨k + 1, by omega, by go_num, ?_, g0.other _ _ (by simp), ?_, gb.setCell (by simp) _⟩
        · rw [Nat.pow_succ, ← Nat.div_div_eq_div_mul, HM.out]; congr 1
        · have := g1.set k (.int .i64 ((p / 2 ^ k % 2 : Nat) : Int))
          rw [placeUp_next, HM.out] at this
          exact this
      case measure => simp [intOf]; omega
    · have hk8 : k = 48 := by omega
      subst hk8
      have hd : decide (((48 : Nat) : Int) < 48) = false := by decide
      go_wp2_with (first | refine wpList_load_part rfl 150 _ rfl (w.heap.size + 1) 0 rfl 150 _ 48 48 _ g1 (by omega) Tryz.underlying150 rfl info48 (placeV p) (fun i hi => by rw [Nat.zero_add]; unfold placeUp; rw [if_pos (by omega)]) ?_ | refine wpList_store_part rfl 150 _ _ rfl rfl w.heap.size 0 (placeV p) 48 rfl rfl 150 _ 48 g0 (by omega) info48 (fun _ _ => rfl) (placeV p) (fun i hi => by unfold splice; rw [if_pos (by omega), Nat.sub_zero]) ?_)
      exact bodyPost_ret (results_cell_row rfl _ _ w.heap.size 150 _ (0, 0) _ rfl (g0.row _ _ rfl) Tryz.underlying150 rfl (by rw [tabv_size]; exact info48)) rfl ⟨rfl, below_setRow gb (Nat.le_refl _) _⟩
theorem bit_div (p i : Nat) : p.testBit i = decide (p / 2 ^ i % 2 = 1) := by
  rw [Nat.testBit_eq_decide_div_mod_eq]
theorem lvl_step (p m : Nat) : ∀ k, (∀ i, i < k → p / 2 ^ i % 2 = 0) → k ≤ m → lvl p m = k + lvl (p / 2 ^ k) (m - k)
  | 0, _, _ => by simp
  | k + 1, h, hk => by
    rw [lvl_step p m k (fun i hi => h i (by omega)) (by omega)]
    obtain ⟨j, hj⟩ : ∃ j, m - k = j + 1 := ⟨m - k - 1, by omega⟩
    rw [hj]
    have h0 := h k (by omega)
    have hb : (p / 2 ^ k).testBit 0 = false := by simp [h0]
    show k + (if (p / 2 ^ k).testBit 0 = true then 0 else lvl (p / 2 ^ k / 2) j + 1) = _
    rw [if_neg (by rw [hb]; decide), Nat.div_div_eq_div_mul, ← Nat.pow_succ, show m - (k + 1) = j by omega, Nat.succ_eq_add_one]
    omega
theorem lvl_here (p m k : Nat) (h : ∀ i, i < k → p / 2 ^ i % 2 = 0) (hk : k < m) (h1 : p / 2 ^ k % 2 = 1) : lvl p m = k := by
  rw [lvl_step p m k h (by omega)]
  obtain ⟨j, hj⟩ : ∃ j, m - k = j + 1 := ⟨m - k - 1, by omega⟩
  rw [hj]
  have hb : (p / 2 ^ k).testBit 0 = true := by simp [h1]
  show k + (if (p / 2 ^ k).testBit 0 = true then 0 else _) = _
  rw [if_pos hb]; rfl
theorem lvl_none (p m : Nat) (h : ∀ i, i < m → p / 2 ^ i % 2 = 0) : lvl p m = m := by
  rw [lvl_step p m m h (Nat.le_refl _), Nat.sub_self]; rfl
set_option maxRecDepth 100000 in
set_option maxHeartbeats 1000000 in
theorem rlevel_any (p : Nat) (w : World) : Calls Tryz.prog 88 #[.agg (tabv (placeV p) 48)] w fun e w' => e = .returned (.int .i64 (lvl p 48 : Int)) ∧ Below w.heap.size w w' := by
  go_enter Tryz.func88, Tryz.ntmps88
  go_wp2
  generalize hW : World.alloc w _ = w3
  have g0 : Has w3 w.heap.size 150 (placeV p) 48 := by rw [← hW]; exact Has.new w 150 (placeV p) 48 _ rfl
  have gb : Below w.heap.size w w3 := by rw [← hW]; exact (Below.refl w.heap.size w).alloc (Nat.le_refl _) _
  clear hW
  go_loopw [3] (fun i wr => ∃ k : Nat, k ≤ 48 ∧ i = .int .i64 k ∧ (∀ i, i < k → p / 2 ^ i % 2 = 0) ∧ wr = w3) (fun i _ => 48 - (intOf i).toNat)
  case atStart => exact ⟨0, by omega, rfl, fun i hi => by omega, rfl⟩
  case round =>
    obtain ⟨k, hk, rfl, hz, rfl⟩ := hrel
    by_cases hlt : k < 48
    · have c0 : wr.cell? ⟨w.heap.size, k, none⟩ = some (.int .i64 ((p / 2 ^ k % 2 : Nat) : Int)) := g0.cell k hlt
      have hd : decide ((k : Int) < 48) = true := by simp; omega
      have hk0 : (0 : Int) ≤ (k : Int) := by omega
      have hk1 : (k : Int) < 48 := by omega
      have HZ := hide hz
      obtain ⟨b, hb⟩ : ∃ b, p / 2 ^ k % 2 = b := ⟨_, rfl⟩
      rw [hb] at c0
      have HBt := hide hb
      clear hz hb
      by_cases h1 : b = 1
      · subst h1
        have HL := hide (lvl_here p 48 k HZ.out hlt HBt.out)
        go_wp2
        go_ret
        exact ⟨by rw [HL.out]; rfl, gb⟩
      · have h0 : b = 0 := by have := HBt.out; omega
        subst h0
        go_wp2
        go_roundw
        case rel =>
          refine ⟨k + 1, by omega, by go_num, fun i hi => ?_, by first | rfl | trivial⟩
          by_cases e : i = k
          · rw [e]; exact HBt.out
          · exact HZ.out i (by omega)
        case measure => simp [intOf]; omega
    · have hk8 : k = 48 := by omega
      subst hk8
      have hd : decide (((48 : Nat) : Int) < 48) = false := by decide
      have HL := hide (lvl_none p 48 hz)
      clear hz
      go_wp2
      go_ret
      exact ⟨by rw [HL.out]; rfl, gb⟩
theorem zero32 : tabv (fun _ => (.int .u8 0 : Value)) 32 = (#[.int .u8 0, .int .u8 0, .int .u8 0, .int .u8 0, .int .u8 0, .int .u8 0, .int .u8 0, .int .u8 0, .int .u8 0, .int .u8 0, .int .u8 0, .int .u8 0, .int .u8 0, .int .u8 0, .int .u8 0, .int .u8 0, .int .u8 0, .int .u8 0, .int .u8 0, .int .u8 0, .int .u8 0, .int .u8 0, .int .u8 0, .int .u8 0, .int .u8 0, .int .u8 0, .int .u8 0, .int .u8 0, .int .u8 0, .int .u8 0, .int .u8 0, .int .u8 0] : Array Value) := rfl
-- left out in this seat: rpoint_any
/-- A hash's byte with one bit turned, as Go has it. -/
theorem flip_byte (h : Nat → UInt8) (B : Nat) : bits .xor .u8 ((h (B / 8)).toNat : Int) ((2 : Int) ^ (B % 8) % 256) = ((flipB B h (B / 8)).toNat : Int) := by
  unfold flipB
  rw [if_pos rfl]
  have h8 : B % 8 < 8 := Nat.mod_lt _ (by omega)
  generalize B % 8 = k at h8
  generalize h (B / 8) = c
  have key : ∀ (c : UInt8) (k : Nat), k < 8 → bits .xor .u8 (c.toNat : Int) ((2 : Int) ^ k % 256) = ((c ^^^ UInt8.ofNat (2 ^ k)).toNat : Int) := by
    intro c k hk
    have hc : ∀ i : Fin 256, ∀ j : Fin 8, bits .xor .u8 ((i.val : Nat) : Int) ((2 : Int) ^ j.val % 256) = (((UInt8.ofNat i.val) ^^^ UInt8.ofNat (2 ^ j.val)).toNat : Int) := by decide +kernel
    have := hc ⟨c.toNat, c.toNat_lt⟩ ⟨k, hk⟩
    simpa using this
  exact key c k h8
theorem flip_upd (h : Nat → UInt8) (B : Nat) : upd (bv h) (B / 8) (.int .u8 ((flipB B h (B / 8)).toNat : Int)) = bv (flipB B h) := by
  funext j
  unfold upd bv
  by_cases e : j = B / 8
  · subst e; rw [if_pos rfl]
  · rw [if_neg e]; unfold flipB; rw [if_neg e]
-- left out in this seat: rdown_any
end Go.Proofs.YtlohfoggcdaeiaaGreat
/-
  The document's Secret, Level and Derive.
-/
namespace Go.Proofs.YtlohfoggcdaeiaaGreat
set_option maxRecDepth 20000
open Go.RowKit S
set_option linter.unusedVariables false
def secretA [Inhabited S.Tbl] (h : Nat → UInt8) (n : Int) : (Nat → UInt8) × Int := if isN n = true then (secretOf step h n.toNat, 0) else (fun _ => 0, 90)
def levelA (n : Int) : Int × Int := if isN n = true then ((lvl (place n.toNat) 48 : Int), 0) else (0, 90)
theorem place_num {n : Int} (h : isN n = true) : n = 281474976710655 - (place n.toNat : Int) ∧ place n.toNat ≤ 281474976710655 := by
  rw [isN_iff] at h
  unfold place
  omega
set_option maxRecDepth 100000 in
set_option maxHeartbeats 1000000 in
theorem rLevel_any (n : Int) (w : World) : Calls Tryz.prog 76 #[.int .i64 n] w fun e w' => e = .returned (.tuple #[.int .i64 (levelA n).1, .int .i64 (levelA n).2]) ∧ Below w.heap.size w w' := by
  cases h : isN n with
  | true =>
    have e : levelA n = ((lvl (place n.toNat) 48 : Int), 0) := by unfold levelA; rw [if_pos h]
    rw [e]
    obtain ⟨h1, h2⟩ := place_num h
    obtain ⟨p, hp⟩ : ∃ p, place n.toNat = p := ⟨_, rfl⟩
    rw [hp] at h1 h2 ⊢
    have HP := fun w => rplace_any p h2 w
    rw [← h1] at HP
    have HP := hide HP
    have HH := hide h
    clear h h1 h2 hp
    go_enter Tryz.func76, Tryz.ntmps76
    go_wp2_with fail
    refine (rgood_any _ _).mono ?_
    rintro e w1 ⟨rfl, rfl⟩
    rw [HH.out]
    go_wp2_with fail
    refine (HP.out _).mono ?_
    rintro e w2 ⟨rfl, hb2⟩
    go_wp2_with fail
    refine (rlevel_any _ _).mono ?_
    rintro e w3 ⟨rfl, hb3⟩
    go_wp2
    go_ret2
    exact ⟨rfl, hb2.trans (hb3.mono hb2.size)⟩
  | false =>
    have e : levelA n = (0, 90) := by unfold levelA; rw [if_neg (by rw [h]; decide)]
    rw [e]
    go_enter Tryz.func76, Tryz.ntmps76
    go_wp2_with fail
    refine (rgood_any _ _).mono ?_
    rintro e w1 ⟨rfl, rfl⟩
    rw [h]
    go_wp2
    go_ret2
    exact ⟨rfl, Below.refl _ _⟩
theorem takeH {P : Program} {ops : Array Oper} {Q : Exit → Act → World → Prop} {md : Region.Mode} {S : World → Prop} (i : Nat) (d : Option Tmp) (v : Value) {oi : Oper} {fuel : Nat} {listed : Array Bool} {a : Act} {w : World} (hi : ops[i]? = some oi) (hd : oi.dst = d)
    (hs : Region.noSelect ops = true) (hf : Region.free md ops listed i = true) (hr : (Region.ready md ops listed).contains i = true)
    (hQ : ∀ c a w, Q (.panic c) (a.put oi.dst v) w → Q (.panic c) a w) (hw : Region.wanted oi (yielded ops a.tmps) = true) (hy : ∀ w, S w → (execOp a.eval oi).run P w = .ok (.value v) w) (hS : S w)
    (h : wpAnyH P md ops Q S fuel (listed.setIfInBounds i true) (a.put d v) w) : wpAnyH P md ops Q S (fuel + 1) listed a w :=
  wpAnyH_take hi hs hf hr hQ (.inl ⟨hw, hy⟩) hS (by rw [hd]; exact h)
theorem resCT (w : World) (g : Nat) (f : Nat → Value) (tmps : Array Value) (k : Int) (c t : Nat) (hg : Has w g 25 f 32) (hp : tmps.getD c undef = .pointer (some ⟨g, 0, none⟩)) (hq : tmps.getD t undef = .int .i64 k) (fn : Func) (h : fn.results = #[.cell c 25, .tmp t]) :
    (results fn tmps).run Tryz.prog w = .ok (.tuple #[.agg (tabv f 32), .int .i64 k]) w := by
  rw [results_cell_tmp h, hp, hq]
  have := run_loadVar_row (P := Tryz.prog) w g 25 25 (tabv f 32) (0, 0) _ hg Tryz.underlying25 rfl (by rw [tabv_size]; exact info26)
  simp [asAddr, this]
theorem wp_store_part {P : Program} {o : Oper} {a : Act} {w : World} {K : Act → World → Prop} {Q : Exit → Act → World → Prop} (ty : TypeId) (x y : Operand) (ho : o.op = .store ty x y) (hd : o.dst = none)
    (g of : Nat) (h : Nat → Value) (m : Nat) (hx : a.eval x = .pointer (some ⟨g, of, none⟩)) (hy : a.eval y = .agg (tabv h m))
    (t : TypeId) (f : Nat → Value) (M : Nat) (hg : Has w g t f M) (hm : of + m ≤ M) (hi : (P.info? ty).map (·.size) = some m)
    (h1 : ∀ i, i < m → (h i).oneCell' = true) (f' : Nat → Value) (hf : ∀ i, i < M → splice f of h m i = f' i)
    (hk : K a (w.setRow g (tabv f' M))) : o.wp P a w K Q := by
  unfold Oper.wp execOp
  simp only [ho, hx, hy, Instr.storeAt, Instr.sureAddr, Sem.run_bind, Sem.run_pure, Result.andThen_ok, run_storeVar_part w g of t ty f h M m hg hm hi h1]
  rw [tabv_congr _ f' M hf]
  unfold Oper.upon
  first | exact hk | (simp only [hd]; exact hk)
-- left out in this seat: rSecret_any
def deriveA [Inhabited S.Tbl] (h : Nat → UInt8) (a c : Int) : (Nat → UInt8) × Int :=
  if isN a = true ∧ isN c = true then (if place a.toNat / 2 ^ lvl (place a.toNat) 48 = place c.toNat / 2 ^ lvl (place a.toNat) 48 then (deriveOf step h a.toNat c.toNat, 0) else (fun _ => 0, 5)) else (fun _ => 0, 90)
theorem zero48 : tabv (fun _ => (.int .i64 0 : Value)) 48 = (#[.int .i64 0, .int .i64 0, .int .i64 0, .int .i64 0, .int .i64 0, .int .i64 0, .int .i64 0, .int .i64 0, .int .i64 0, .int .i64 0, .int .i64 0, .int .i64 0, .int .i64 0, .int .i64 0, .int .i64 0, .int .i64 0, .int .i64 0, .int .i64 0, .int .i64 0, .int .i64 0, .int .i64 0, .int .i64 0, .int .i64 0, .int .i64 0, .int .i64 0, .int .i64 0, .int .i64 0, .int .i64 0, .int .i64 0, .int .i64 0, .int .i64 0, .int .i64 0, .int .i64 0, .int .i64 0, .int .i64 0, .int .i64 0, .int .i64 0, .int .i64 0, .int .i64 0, .int .i64 0, .int .i64 0, .int .i64 0, .int .i64 0, .int .i64 0, .int .i64 0, .int .i64 0, .int .i64 0, .int .i64 0] : Array Value) := rfl
theorem bits_eq {p q i : Nat} : p / 2 ^ i % 2 = q / 2 ^ i % 2 ↔ p.testBit i = q.testBit i := by
  rw [bit_div, bit_div]
  constructor
  · intro h; rw [h]
  · intro h
    have h1 : p / 2 ^ i % 2 < 2 := Nat.mod_lt _ (by omega)
    have h2 : q / 2 ^ i % 2 < 2 := Nat.mod_lt _ (by omega)
    have h3 : (p / 2 ^ i % 2 = 1) ↔ (q / 2 ^ i % 2 = 1) := by simpa using h
    omega
-- left out in this seat: rDerive_any
end Go.Proofs.YtlohfoggcdaeiaaGreat
/-
  Not of use in this seat. STUB: seed/SOpen
-/
namespace Go.Proofs.YtlohfoggcdaeiaaGreat
open Go.RowKit S
def num : Num := ⟨fun b => (b.toNat : Int), fun _ => rfl⟩
end Go.Proofs.YtlohfoggcdaeiaaGreat
/-
  Not of use in this seat. STUB: seed/SLaid
-/
/-
  Not of use in this seat. STUB: seed/SHead
-/
/-
  The statements' own helpers: full, begins, number, hangs; what the four calls of the layer must answer.
-/
namespace Go.Proofs.YtlohfoggcdaeiaaGreat
set_option maxRecDepth 20000
open Go.RowKit S
set_option linter.unusedVariables false
theorem wpList_load_want {P : Program} {ops : Array Oper} {rest : List Oper} {o : Oper} {a : Act} {w : World} {Q : Exit → Act → World → Prop} (hw : Region.wanted o (yielded ops a.tmps) = true) (ty : TypeId) (x : Operand) (ho : o.op = .load ty x)
    (g of : Nat) (hx : a.eval x = .pointer (some ⟨g, of, none⟩)) (t : TypeId) (f : Nat → Value) (M m : Nat) (d : TypeDesc) (hg : Has w g t f M) (hm : of + m ≤ M)
    (hu : P.underlying ty = some d) (hd : (match d with | .struct _ | .array _ _ => true | _ => false) = true) (hi : (P.info? ty).map (·.size) = some m)
    (f' : Nat → Value) (hf : ∀ i, i < m → f (of + i) = f' i)
    (h : wpList P ops Q rest (a.put o.dst (.agg (tabv f' m))) w) : wpList P ops Q (o :: rest) a w :=
  wpList_step fun K hK => by rw [if_pos hw]; exact wp_load_part ty x ho g of hx t f M m d hg hm hu hd hi (hK _ _ (by rw [tabv_congr _ f' m hf]; exact h))
-- left out in this seat: SeedOk
theorem Glob.up [Inhabited S.Tbl] {n : Num} {w w' : World} (h : Glob n w) (hb : Below w.heap.size w w') : Glob n w' := h.below hb h.2.2
def fullUp (c : UInt8) (k : Nat) : Nat → UInt8 := fun i => if i < k then c else 0
theorem fullUp_next (c : UInt8) (k : Nat) : upd (bv (fullUp c k)) k (.int .u8 (c.toNat : Int)) = bv (fullUp c (k + 1)) := by
  funext i
  unfold upd bv fullUp
  by_cases h : i = k
  · subst h; rw [if_pos rfl, if_pos (by omega)]
  · rw [if_neg h]
    by_cases h2 : i < k
    · rw [if_pos h2, if_pos (by omega)]
    · rw [if_neg h2, if_neg (by omega)]
-- left out in this seat: full_any
-- left out in this seat: begins_any
def numA (x : Int) : Nat := (bits .and .i64 x 281474976710655).toNat
theorem num_is (x : Int) : bits .and .i64 x 281474976710655 = (numA x : Int) ∧ numA x ≤ 281474976710655 := by
  have e : bits .and .i64 x 281474976710655 = IntKind.i64.wrap ((BitVec.ofInt 64 x &&& BitVec.ofInt 64 281474976710655).toNat : Int) := rfl
  have hle : (BitVec.ofInt 64 x &&& BitVec.ofInt 64 281474976710655).toNat ≤ 281474976710655 := by
    rw [BitVec.toNat_and]
    refine Nat.le_trans Nat.and_le_right ?_
    decide
  unfold numA
  rw [e]
  generalize (BitVec.ofInt 64 x &&& BitVec.ofInt 64 281474976710655).toNat = m at hle
  rw [IntKind.wrap_i64]
  omega
-- left out in this seat: number_any
end Go.Proofs.YtlohfoggcdaeiaaGreat
/-
  hangs: P9.4's words by numbers alone.
-/
namespace Go.Proofs.YtlohfoggcdaeiaaGreat
set_option maxRecDepth 20000
open Go.RowKit S
set_option linter.unusedVariables false
def nearB (a c : Nat) : Bool := decide (c ≤ a) && decide (a - c < 2 ^ lvl (place a) 48)
theorem pow_wrap {k : Nat} (h : k ≤ 48) : wrap64 ((2 : Int) ^ k) = (2 : Int) ^ k := by
  have h1 : (2 : Nat) ^ k ≤ 2 ^ 48 := Nat.pow_le_pow_right (by omega) h
  have e : ((2 : Int) ^ k) = ((2 ^ k : Nat) : Int) := by norm_cast
  rw [e]
  have h2 : (2 : Nat) ^ 48 = 281474976710656 := rfl
  generalize (2 : Nat) ^ k = m at h1
  unfold wrap64; omega
-- left out in this seat: hangs_any
end Go.Proofs.YtlohfoggcdaeiaaGreat
/-
  head: the examples that every statement asks first.
-/
namespace Go.Proofs.YtlohfoggcdaeiaaGreat
set_option maxRecDepth 20000
open Go.RowKit S
set_option linter.unusedVariables false
theorem at_of {h : Nat → UInt8} {l : List UInt8} (e : listOf h = l) (i : Nat) (hi : i < 32) (v : Nat) (hv : (l.getD i 0).toNat = v) : ((h i).toNat : Int) = (v : Int) := by
  rw [← listOf_getD h i hi, e, hv]
theorem sec_one [Inhabited S.Tbl] : secretA (fun _ => (0 : UInt8)) 0 = (secretOf step (fun _ => (0 : UInt8)) 0, 0) := by
  unfold secretA; rw [if_pos (by decide +kernel)]; rfl
theorem sec_two [Inhabited S.Tbl] : secretA (fun _ => (1 : UInt8)) 281474976710654 = (secretOf step (fun _ => (1 : UInt8)) 281474976710654, 0) := by
  unfold secretA; rw [if_pos (by decide +kernel)]; rfl
theorem lev_three : levelA 3 = (2, 0) := by decide +kernel
theorem der_four [Inhabited S.Tbl] (h : Nat → UInt8) : deriveA h 3 4 = (fun _ => 0, 5) := by
  unfold deriveA; rw [if_pos (by decide +kernel), if_neg (by decide +kernel)]
-- left out in this seat: head_any
end Go.Proofs.YtlohfoggcdaeiaaGreat
/-
  Numbers that hang on one another: what the statements of layer 9 lean on.
-/
namespace Go.Proofs.YtlohfoggcdaeiaaGreat
set_option maxRecDepth 20000
open Go.RowKit S
set_option linter.unusedVariables false
theorem isN_nat {a : Nat} (h : a ≤ 281474976710655) : isN (a : Int) = true := by rw [isN_iff]; omega
theorem level_nat {a : Nat} (h : a ≤ 281474976710655) : levelA (a : Int) = ((lvl (place a) 48 : Int), 0) := by
  unfold levelA; rw [if_pos (isN_nat h), Int.toNat_natCast]
theorem secret_nat [Inhabited S.Tbl] {s : Nat → UInt8} {a : Nat} (h : a ≤ 281474976710655) : secretA s (a : Int) = (secretOf step s a, 0) := by
  unfold secretA; rw [if_pos (isN_nat h), Int.toNat_natCast]
theorem place_lt (a : Nat) : place a < 281474976710656 := by unfold place; omega
theorem derive_yes [Inhabited S.Tbl] {s : Nat → UInt8} {a c : Nat} (ha : a ≤ 281474976710655) (hc : c ≤ 281474976710655) (h : Hangs (place a) (place c)) : deriveA s (a : Int) (c : Int) = (deriveOf step s a c, 0) := by
  unfold deriveA
  rw [if_pos ⟨isN_nat ha, isN_nat hc⟩, Int.toNat_natCast, Int.toNat_natCast, if_pos ((hangs_div (place_lt a) (place_lt c)).1 h)]
theorem derive_none [Inhabited S.Tbl] {s : Nat → UInt8} {a c : Nat} (ha : a ≤ 281474976710655) (hc : c ≤ 281474976710655) (h : ¬ Hangs (place a) (place c)) : deriveA s (a : Int) (c : Int) = (fun _ => 0, 5) := by
  unfold deriveA
  rw [if_pos ⟨isN_nat ha, isN_nat hc⟩, Int.toNat_natCast, Int.toNat_natCast, if_neg (fun k => h ((hangs_div (place_lt a) (place_lt c)).2 k))]
theorem and_mask (x M : Int) (h1 : 1 ≤ M) (h2 : M ≤ 281474976710656) : ∃ m : Nat, bits .and .i64 x (M - 1) = (m : Int) ∧ (m : Int) ≤ M - 1 := by
  obtain ⟨y, hy⟩ : ∃ y : Nat, M - 1 = (y : Int) := ⟨(M - 1).toNat, by omega⟩
  rw [hy]
  have hyl : y < 281474976710656 := by omega
  have e : bits .and .i64 x (y : Int) = IntKind.i64.wrap ((BitVec.ofInt 64 x &&& BitVec.ofInt 64 (y : Int)).toNat : Int) := rfl
  have hle : (BitVec.ofInt 64 x &&& BitVec.ofInt 64 (y : Int)).toNat ≤ y := by
    rw [BitVec.toNat_and]
    refine Nat.le_trans Nat.and_le_right ?_
    rw [BitVec.ofInt_natCast, BitVec.toNat_ofNat]
    exact Nat.mod_le _ _
  refine ⟨(BitVec.ofInt 64 x &&& BitVec.ofInt 64 (y : Int)).toNat, ?_, by omega⟩
  rw [e]
  generalize (BitVec.ofInt 64 x &&& BitVec.ofInt 64 (y : Int)).toNat = m at hle
  rw [IntKind.wrap_i64]
  omega
/-- A number is at least its level's power of two, less one. -/
theorem level_room {a : Nat} (ha : a ≤ 281474976710655) : 2 ^ lvl (place a) 48 ≤ a + 1 := by
  have hm := mod_zero (lvl_zeros 48 (place a))
  have hl := lvl_le 48 (place a)
  obtain ⟨k, hk⟩ : ∃ k, lvl (place a) 48 = k := ⟨_, rfl⟩
  rw [hk] at hm hl ⊢
  have h48 : (281474976710656 : Nat) % 2 ^ k = 0 := by
    rw [show (281474976710656 : Nat) = 2 ^ k * 2 ^ (48 - k) by rw [← Nat.pow_add, show k + (48 - k) = 48 by omega]]
    exact Nat.mul_mod_right _ _
  have hpos : 0 < 2 ^ k := Nat.pow_pos (by omega)
  have he : a + 1 = 281474976710656 - place a := by unfold place; omega
  have hd : (2 ^ k) ∣ (a + 1) := by
    rw [he]
    exact Nat.dvd_sub (Nat.dvd_of_mod_eq_zero h48) (Nat.dvd_of_mod_eq_zero hm)
  exact Nat.le_of_dvd (by omega) hd
/-- A number a little earlier has no higher level. -/
theorem level_near {a b : Nat} (ha : a ≤ 281474976710655) (h1 : b ≤ a) (h2 : a - b < 2 ^ lvl (place a) 48) : lvl (place b) 48 ≤ lvl (place a) 48 := by
  rcases Nat.lt_or_ge (lvl (place a) 48) (lvl (place b) 48) with h | h
  · exfalso
    have hb := mod_zero (lvl_zeros 48 (place b))
    have ha' := mod_zero (lvl_zeros 48 (place a))
    have hl := lvl_le 48 (place b)
    have hone := lvl_one 48 (place a) (by omega)
    obtain ⟨k, hk⟩ : ∃ k, lvl (place a) 48 = k := ⟨_, rfl⟩
    rw [hk] at h h2 ha' hone
    have hz := lvl_zeros 48 (place b) k h
    have hbk : place b % 2 ^ k = 0 := mod_zero (fun i hi => lvl_zeros 48 (place b) i (by omega))
    have e : place b = place a + (a - b) := by unfold place; omega
    have hab : a - b = 0 := by
      have : (place a + (a - b)) % 2 ^ k = a - b := by
        rw [Nat.add_mod, ha', Nat.zero_add, Nat.mod_mod, Nat.mod_eq_of_lt h2]
      rw [← e, hbk] at this
      exact this.symm
    rw [hab, Nat.add_zero] at e
    rw [e, hone] at hz
    cases hz
  · exact h
theorem Hangs.trans {p q r : Nat} (h : Hangs p q) (hl : lvl q 48 ≤ lvl p 48) (k : Hangs q r) : Hangs p r :=
  fun i h1 h2 => (h i h1 h2).trans (k i (by omega) h2)
theorem pow_cast (k : Nat) : ((2 : Int) ^ k) = ((2 ^ k : Nat) : Int) := by norm_cast
theorem pow_range {k : Nat} (h : k ≤ 48) : 1 ≤ (2 : Int) ^ k ∧ (2 : Int) ^ k ≤ 281474976710656 := by
  have h1 : (2 : Nat) ^ k ≤ 2 ^ 48 := Nat.pow_le_pow_right (by omega) h
  have h2 : (2 : Nat) ^ 48 = 281474976710656 := rfl
  have h3 : 0 < (2 : Nat) ^ k := Nat.pow_pos (by omega)
  rw [pow_cast]
  omega
/-- x - y&(1<<level - 1). -/
theorem near_of (a : Nat) (ha : a ≤ 281474976710655) (x M : Int) (hM : (2 : Int) ^ lvl (place a) 48 = M) : ∃ m b : Nat, bits .and .i64 x (M - 1) = (m : Int) ∧ (a : Int) - (m : Int) = (b : Int) ∧ b ≤ a ∧ m ≤ a ∧ Hangs (place a) (place b) ∧ lvl (place b) 48 ≤ lvl (place a) 48 := by
  have hr := pow_range (lvl_le 48 (place a))
  have hroom := level_room ha
  rw [hM] at hr
  obtain ⟨m, h1, h2⟩ := and_mask x M hr.1 hr.2
  have hM' : M = ((2 ^ lvl (place a) 48 : Nat) : Int) := by rw [← hM, pow_cast]
  have hlt : a - (a - m) < 2 ^ lvl (place a) 48 := by omega
  exact ⟨m, a - m, h1, by omega, by omega, by omega, (hangs_near ha (by omega)).2 ⟨by omega, hlt⟩, level_near ha (by omega) hlt⟩
end Go.Proofs.YtlohfoggcdaeiaaGreat
