/-
  The document's disk: without, put.
-/
import Derived.Test.YtcmhfpiglacdaaaGreatRefBase
namespace Go.Proofs.YtcmhfpiglacdaaaGreat
open Go.RowKit Go.Maps Go.WideMaps
set_option linter.unusedVariables false
set_option linter.unusedSimpArgs false
theorem wpList_app {P : Program} {ops : Array Oper} {rest : List Oper} {o : Oper} {a : Act} {w w' : World} {Q : Exit → Act → World → Prop} {v : Value} (hg : o.guard = none) (s x : Operand) (tys : Array TypeId) (ho : o.op = .call { callee := .builtin .append, args := #[s, x], argTypes := tys }) (h : (Builtin.append_ tys o.type #[a.eval s, a.eval x]).run P w = .ok v w') (k : wpList P ops Q rest (a.put o.dst v) w') : wpList P ops Q (o :: rest) a w :=
  wpList_plain hg fun K hK => wpRun (run_append_op s x tys ho h) (hK _ _ k)
theorem delR_snoc (xs : List RF) (s : Key) (k : Nat) (h : k < xs.length) : delR (xs.take (k + 1)) s = delR (xs.take k) s ++ (if (xs[k].name.data.toList == s) = true then [] else [xs[k]]) := by
  unfold delR
  rw [take_snoc xs k h, List.filter_append, List.filter_cons, List.filter_nil]
  congr 1
  by_cases e : (xs[k].name.data.toList == s) = true
  · rw [if_pos e, e]; rfl
  · rw [if_neg e]
    have : (xs[k].name.data.toList == s) = false := by simpa using e
    rw [this]
    rfl
theorem delR_few (xs : List RF) (s : Key) : (delR xs s).length ≤ xs.length := List.length_filter_le ..
set_option maxRecDepth 5000 in
set_option maxHeartbeats 1000000 in
theorem without_any (w : World) (ad : Option Addr) (cap : Nat) (xs : List RF) (h : Files w ad xs) (hn : xs.length ≤ 100) (s : ByteArray) :
    Calls Tryz.prog 63 #[.slice ad xs.length cap, .string s] w fun e w' => ∃ v, e = .returned v ∧ w'.ownsRow w.heap.size 87 4 v (delR xs s.data.toList).length (cellsF (delR xs s.data.toList)) ∧ Below w.heap.size w w' := by
  have HF := hide h
  obtain ⟨B, hB⟩ : ∃ B, w.heap.size = B := ⟨_, rfl⟩
  have HBE := hide hB
  rw [hB]
  clear h hB
  go_enter Tryz.func63, Tryz.ntmps63
  go_wp2
  go_loopw [5, 6] (fun v i wr => ∃ k : Nat, k ≤ xs.length ∧ i = .int .i64 (k : Int) ∧ wr.ownsRow B 87 4 v (delR (xs.take k) s.data.toList).length (cellsF (delR (xs.take k) s.data.toList)) ∧ Below B w wr) (fun _ i _ => xs.length - (intOf i).toNat)
  case atStart => exact ⟨0, by omega, rfl, World.ownsRow_nil _ _ _ _, Below.refl _ _⟩
  case round =>
    rename_i v0 i0
    obtain ⟨k, hk, rfl, hown, hbr⟩ := hrel
    by_cases hlt : k < xs.length
    · have dk : decide ((k : Int) < (xs.length : Int)) = true := decide_eq_true (by omega)
      have hk0 : (0 : Int) ≤ (k : Int) := by omega
      have hk1 : (k : Int) < (xs.length : Int) := by omega
      have hfr := HF.out.below (by rw [HBE.out]; exact hbr)
      obtain ⟨b, o, rfl, hbl, hcs⟩ := hfr.cells hlt
      have HSN := hide (delR_snoc xs s.data.toList k hlt)
      obtain ⟨x, hx⟩ : ∃ x, xs[k] = x := ⟨_, rfl⟩
      rw [hx] at hcs HSN
      have f0 : wr.cell? ⟨b, o + k * 4, none⟩ = some (.string x.name) := hcs 0 (by omega)
      have f1 : wr.cell? ⟨b, o + k * 4 + 1, none⟩ = some (.string x.seen) := hcs 1 (by omega)
      have f2 : wr.cell? ⟨b, o + k * 4 + 2, none⟩ = some (.string x.safe) := hcs 2 (by omega)
      have f3 : wr.cell? ⟨b, o + k * 4 + 3, none⟩ = some (.slice x.ad x.ds.length x.cap) := hcs 3 (by omega)
      cases hq : (x.name.data.toList == s.data.toList) with
      | true =>
        have hb1 : (x.name.toList == s.toList) = true := by rw [toList_beq]; exact hq
        have hb2 : (x.name.toList != s.toList) = false := by unfold bne; rw [hb1]; rfl
        rw [hq, if_pos rfl, List.append_nil] at HSN
        have HO := hide hown
        have HB := hide hbr
        clear hown hbr hcs hfr hx hq hbl
        go_wp2
        go_roundw
        case rel => exact ⟨k + 1, by omega, by go_num, by rw [HSN.out]; exact HO.out, HB.out⟩
        case measure => simp [intOf]; omega
      | false =>
        have hb1 : (x.name.toList == s.toList) = false := by rw [toList_beq]; exact hq
        have hb2 : (x.name.toList != s.toList) = true := by unfold bne; rw [hb1]; rfl
        rw [hq, if_neg (by simp)] at HSN
        obtain ⟨g1, hg1⟩ : ∃ g, wr.heap.size = g := ⟨_, rfl⟩
        obtain ⟨w1, hw1⟩ : ∃ w1, wr.alloc (.cells x.cs 87) = w1 := ⟨_, rfl⟩
        obtain ⟨v2, w2, hap, hr2, hb3⟩ := app_file hown (by rw [← HBE.out]; exact Nat.le_trans (Nat.le_refl _) hbr.size) (by have := delR_few (xs.take k) s.data.toList; rw [List.length_take] at this; omega) x 43 hw1 hg1
        rw [← HSN.out] at hr2
        unfold RF.cs at hw1
        have HO := hide hr2
        have HB := hide (hbr.trans hb3)
        clear hown hbr hcs hfr hx hq hbl hr2 hb3
        go_wp2_with (at_builtin; refine wpList_app rfl _ _ _ rfl hap ?_; try go_frame)
        go_roundw
        case rel => exact ⟨k + 1, by omega, by go_num, HO.out, HB.out⟩
        case measure => simp [intOf]; omega
    · have hkl : k = xs.length := by omega
      subst hkl
      have dk : decide ((xs.length : Int) < (xs.length : Int)) = false := decide_eq_false (by omega)
      rw [List.take_length] at hown
      have HO := hide hown
      have HB := hide hbr
      clear hown hbr
      go_wp2
      go_ret
      exact ⟨_, rfl, HO.out, HB.out⟩
theorem insR_none {f : RF} : ∀ {ts : List RF}, (∀ y ∈ ts, bytesBefore f.name.data.toList y.name.data.toList = false) → ∀ r, insR f (ts ++ r) = ts ++ insR f r
  | [], _, r => rfl
  | y :: ts, h, r => by
    show insR f (y :: (ts ++ r)) = y :: (ts ++ insR f r)
    unfold insR
    rw [if_neg (by rw [h y (List.mem_cons_self ..)]; simp)]
    rw [insR_none (fun z hz => h z (List.mem_cons_of_mem _ hz)) r]
    cases r <;> rfl
theorem insR_some {f : RF} : ∀ {ts : List RF}, (∃ y ∈ ts, bytesBefore f.name.data.toList y.name.data.toList = true) → ∀ r, insR f (ts ++ r) = insR f ts ++ r
  | [], ⟨y, hy, _⟩, r => by simp at hy
  | y :: ts, h, r => by
    show insR f (y :: (ts ++ r)) = insR f (y :: ts) ++ r
    unfold insR
    split
    · rfl
    · rename_i hn
      obtain ⟨z, hz, hb⟩ := h
      rcases List.mem_cons.1 hz with e | hz
      · rw [e] at hb; exact absurd hb hn
      · rw [insR_some ⟨z, hz, hb⟩ r]; rfl
/-- How far put has come. -/
def PInv (xs : List RF) (f : RF) (k : Nat) (d : Bool) (ys : List RF) : Prop :=
  (d = false ∧ ys = delR (xs.take k) f.name.data.toList ∧ ∀ y ∈ ys, bytesBefore f.name.data.toList y.name.data.toList = false) ∨
  (d = true ∧ ys = insR f (delR (xs.take k) f.name.data.toList) ∧ ∃ y ∈ delR (xs.take k) f.name.data.toList, bytesBefore f.name.data.toList y.name.data.toList = true)
section
variable {xs : List RF} {f : RF} {k : Nat} {d : Bool} {ys : List RF}
theorem PInv.skip (h : PInv xs f k d ys) (hk : k < xs.length) (he : (xs[k].name.data.toList == f.name.data.toList) = true) : PInv xs f (k + 1) d ys := by
  unfold PInv
  rw [delR_snoc xs _ k hk, if_pos he, List.append_nil]
  exact h
theorem PInv.more (h : PInv xs f k true ys) (hk : k < xs.length) (he : (xs[k].name.data.toList == f.name.data.toList) = false) : PInv xs f (k + 1) true (ys ++ [xs[k]]) := by
  rcases h with ⟨h, _⟩ | ⟨_, h, y, hy, hb⟩
  · cases h
  · refine .inr ⟨rfl, ?_, y, ?_, hb⟩
    · rw [delR_snoc xs _ k hk, if_neg (by rw [he]; simp), insR_some ⟨y, hy, hb⟩, h]
    · rw [delR_snoc xs _ k hk]; exact List.mem_append_left _ hy
theorem PInv.past (h : PInv xs f k false ys) (hk : k < xs.length) (he : (xs[k].name.data.toList == f.name.data.toList) = false) (hb : bytesBefore f.name.data.toList xs[k].name.data.toList = false) : PInv xs f (k + 1) false (ys ++ [xs[k]]) := by
  rcases h with ⟨_, h, hn⟩ | ⟨h, _⟩
  · refine .inl ⟨rfl, ?_, fun y hy => ?_⟩
    · rw [delR_snoc xs _ k hk, if_neg (by rw [he]; simp), h]
    · rcases List.mem_append.1 hy with hy | hy
      · exact hn y hy
      · rw [List.mem_singleton.1 hy]; exact hb
  · cases h
theorem PInv.here (h : PInv xs f k false ys) (hk : k < xs.length) (he : (xs[k].name.data.toList == f.name.data.toList) = false) (hb : bytesBefore f.name.data.toList xs[k].name.data.toList = true) : PInv xs f (k + 1) true ((ys ++ [f]) ++ [xs[k]]) := by
  rcases h with ⟨_, h, hn⟩ | ⟨h, _⟩
  · refine .inr ⟨rfl, ?_, xs[k], ?_, hb⟩
    · rw [delR_snoc xs _ k hk, if_neg (by rw [he]; simp), ← h, insR_none hn]
      unfold insR
      rw [if_pos hb, List.append_assoc]
      rfl
    · rw [delR_snoc xs _ k hk, if_neg (by rw [he]; simp)]
      exact List.mem_append_right _ (List.mem_singleton.2 rfl)
  · cases h
theorem PInv.few (h : PInv xs f k d ys) : ys.length ≤ xs.length + 1 := by
  have hd := delR_few (xs.take k) f.name.data.toList
  rw [List.length_take] at hd
  rcases h with ⟨_, h, _⟩ | ⟨_, h, _⟩
  · rw [h]; omega
  · rw [h]
    have : ∀ l : List RF, (insR f l).length = l.length + 1 := by
      intro l
      induction l with
      | nil => rfl
      | cons y r ih => unfold insR; split <;> simp [ih]
    rw [this]; omega
theorem PInv.end1 (h : PInv xs f xs.length true ys) : ys = putR xs f := by
  rcases h with ⟨h, _⟩ | ⟨_, h, _⟩
  · cases h
  · rw [h, List.take_length]; rfl
theorem PInv.end0 (h : PInv xs f xs.length false ys) : ys ++ [f] = putR xs f := by
  rcases h with ⟨_, h, hn⟩ | ⟨h, _⟩
  · rw [List.take_length] at h
    unfold putR
    rw [← h]
    have := insR_none hn []
    rw [List.append_nil] at this
    rw [this]
    rfl
  · cases h
end
end Go.Proofs.YtcmhfpiglacdaaaGreat
