import Derived.Test.YtmmcoedgoekhgaaGreatDoorDMsg
import Derived.Maps.AppendAt
import Derived.Deep.CutRange
/-
  ROWS OF MESSAGES (made of update's rows by mkmrow.py).
-/
namespace Go.Proofs.YtmmcoedgoekhgaaGreatDoor
open Go.RowKit S
set_option linter.unusedVariables false
set_option linter.unusedSimpArgs false
set_option maxRecDepth 20000
theorem oneCell_tabM (s : Msg) : ∀ u ∈ (tabv s.v 70).toList, u.oneCell' = true := by
  intro u hu
  obtain ⟨i, hi, rfl⟩ := List.mem_iff_getElem.1 hu
  simp only [Array.getElem_toList]
  have := oneM s i
  have hi' : i < 70 := by simpa [tabv_size] using hi
  have e := tabv_get s.v 70 i hi'
  rw [Array.getElem?_eq_getElem (by simpa using hi)] at e
  rw [Option.some.inj e]
  exact this
def cellsM (l : List Msg) : List Value := l.flatMap fun s => (tabv s.v 70).toList
theorem cellsM_cons (s : Msg) (l : List Msg) : cellsM (s :: l) = (tabv s.v 70).toList ++ cellsM l := by simp [cellsM]
theorem cellsM_append (a b : List Msg) : cellsM (a ++ b) = cellsM a ++ cellsM b := by simp [cellsM]
theorem cellsM_one (s : Msg) : cellsM [s] = (tabv s.v 70).toList := by simp [cellsM]
theorem cellsM_length : ∀ l : List Msg, (cellsM l).length = l.length * 70
  | [] => rfl
  | s :: l => by rw [cellsM_cons, List.length_append, tabv_len, cellsM_length l, List.length_cons]; omega
theorem cellsM_get : ∀ (l : List Msg) (k : Nat) (s : Msg) (hk : l[k]? = some s) (j : Nat), j < 70 → (cellsM l)[k * 70 + j]? = some (s.v j)
  | [], k, s, hk, j, hj => by simp at hk
  | x :: l, 0, s, hk, j, hj => by
    simp only [List.getElem?_cons_zero, Option.some.injEq] at hk
    subst hk
    rw [cellsM_cons, List.getElem?_append_left (by rw [tabv_len]; omega), Array.getElem?_toList, Nat.zero_mul, Nat.zero_add, tabv_get _ _ _ hj]
  | x :: l, k + 1, s, hk, j, hj => by
    simp only [List.getElem?_cons_succ] at hk
    rw [cellsM_cons, List.getElem?_append_right (by rw [tabv_len]; omega), tabv_len, show (k + 1) * 70 + j - 70 = k * 70 + j by omega]
    exact cellsM_get l k s hk j hj
theorem oneCell_M (l : List Msg) : ∀ u ∈ cellsM l, u.oneCell' = true := by
  intro u hu
  obtain ⟨s, _, h⟩ := List.mem_flatMap.1 hu
  exact oneCell_tabM s u h
/-- Msgs behind a slice's address. -/
def Msgs (w : World) (ad : Option Addr) (l : List Msg) : Prop := l = [] ∨ ∃ b o, ad = some ⟨b, o, none⟩ ∧ b < w.heap.size ∧ ∀ i s, l[i]? = some s → At w b (o + i * 70) s.v 70
theorem Msgs.nil (w : World) (ad : Option Addr) : Msgs w ad [] := .inl rfl
theorem Msgs.get {w : World} {ad : Option Addr} {l : List Msg} (h : Msgs w ad l) (k : Nat) (s : Msg) (hk : l[k]? = some s) : ∃ b o, ad = some ⟨b, o, none⟩ ∧ b < w.heap.size ∧ At w b (o + k * 70) s.v 70 := by
  rcases h with rfl | ⟨b, o, h1, h2, h3⟩
  · simp at hk
  · exact ⟨b, o, h1, h2, h3 k s hk⟩
theorem Msgs.below {w w' : World} {ad : Option Addr} {l : List Msg} (h : Msgs w ad l) (hb : Below w.heap.size w w') : Msgs w' ad l := by
  rcases h with rfl | ⟨b, o, h1, h2, h3⟩
  · exact .inl rfl
  · exact .inr ⟨b, o, h1, Nat.lt_of_lt_of_le h2 hb.size, fun i s hs => (h3 i s hs).below hb h2⟩
/-- A list of slots of one's own. -/
def OwnM (B : Nat) (w : World) (v : Value) (l : List Msg) : Prop := w.ownsRow B 36 70 v l.length (cellsM l)
theorem infoM3 : (Tryz.prog.info? 36).map (fun i => (i.zero, i.size, i.bytes)) = some (some (.agg (tabv Msg.zero.v 70)), 70, 120) := by kernel_rfl
theorem infoMP : ∃ i, Tryz.prog.info? 36 = some i ∧ i.zero = some (.agg (tabv Msg.zero.v 70)) ∧ i.size = 70 ∧ i.bytes = 120 := by
  have h := infoM3
  cases hq : Tryz.prog.info? 36 with
  | none => simp [hq] at h
  | some i => simp [hq] at h; exact ⟨i, rfl, h.1, h.2.1, h.2.2⟩
theorem OwnM.nil (B : Nat) (w : World) : OwnM B w (.slice none 0 0) [] := World.ownsRow_nil w B _ _
theorem OwnM.mono {B B' : Nat} {w : World} {v : Value} {l : List Msg} (h : OwnM B w v l) (hb : B' ≤ B) : OwnM B' w v l :=
  ⟨h.1, h.2.imp id fun ⟨g, cap, cur, h1, h2, h3⟩ => ⟨g, cap, cur, h1, Nat.le_trans hb h2, h3⟩⟩
theorem OwnM.lt {B : Nat} {w : World} {v : Value} {l : List Msg} (h : OwnM B w v l) : ∀ k, v.ownBlock = some k → B ≤ k ∧ k < w.heap.size := World.ownsRow.lt h
theorem OwnM.same {B : Nat} {w w' : World} {v : Value} {l : List Msg} (h : OwnM B w v l) (e : ∀ k, v.ownBlock = some k → w'.heap[k]? = w.heap[k]?) : OwnM B w' v l := by
  refine ⟨h.1, h.2.imp id fun ⟨g, cap, cur, h1, h2, h3, h4⟩ => ⟨g, cap, cur, h1, h2, ?_, h4⟩⟩
  rw [e g (by rw [h1]; rfl), h3]
theorem OwnM.below {B B' : Nat} {w w' : World} {v : Value} {l : List Msg} (h : OwnM B w v l) (hb : Below B' w w') (hB : w.heap.size ≤ B') : OwnM B w' v l := h.same fun k hk => hb.block k (Nat.lt_of_lt_of_le (h.lt k hk).2 hB)
theorem OwnM.msgs {B : Nat} {w : World} {v : Value} {l : List Msg} (h : OwnM B w v l) : ∃ ad cap, v = .slice ad l.length cap ∧ Msgs w ad l ∧ (∀ x, ad = some x → x.block < w.heap.size ∧ B ≤ x.block) ∧ l.length ≤ cap ∧ cap ≤ maxLen := by
  obtain ⟨hl, ⟨rfl, hn⟩ | ⟨g, cap, cur, rfl, hb, hg, h1, h2, h3, h4⟩⟩ := h
  · have : l = [] := List.length_eq_zero_iff.1 hn
    subst this
    exact ⟨none, 0, rfl, .inl rfl, (fun x hx => by cases hx), by simp, by decide⟩
  · have hlt : g < w.heap.size := by
      rcases Nat.lt_or_ge g w.heap.size with h | h
      · exact h
      · rw [Array.getElem?_eq_none h] at hg; cases hg
    refine ⟨some ⟨g, 0, none⟩, cap, rfl, .inr ⟨g, 0, rfl, hlt, fun i s hs j hj => ?_⟩, (fun x hx => by cases hx; exact ⟨hlt, hb⟩), h1, h2⟩
    rw [cell_of_row w g _ cur _ (0, 0) hg]
    have hi : i < l.length := (List.getElem?_eq_some_iff.1 hs).1
    have e := cellsM_get l i s hs j hj
    rw [← h4, List.getElem?_take] at e
    rw [if_pos (by omega), Array.getElem?_toList] at e
    rw [show 0 + i * 70 + j = i * 70 + j by omega]
    exact e
set_option maxRecDepth 100000 in
theorem run_sliceM (w : World) (s : Msg) : (Instr.buildSlice 70 1 #[(0, .agg (tabv s.v 70))]).run Tryz.prog w = .ok (.slice (some ⟨w.heap.size, 0, none⟩) 1 1) (w.alloc (.cells (tabv s.v 70) 36)) := by
  obtain ⟨i, h1, h2, h3, h4⟩ := infoMP
  have e : Instr.fill (fun i => some (i * 70, 70)) ((Array.range 70).map ((tabv Msg.zero.v 70)[· % 70]!)) [(0, .agg (tabv s.v 70))] = some (tabv s.v 70) := by kernel_rfl
  have ez : (Value.agg (tabv Msg.zero.v 70)).cells = tabv Msg.zero.v 70 := rfl
  simp only [Instr.buildSlice, Sem.run_bind, run_underlying Tryz.underlying70, Result.andThen_ok, sizeOf, typeInfo, h1, h3]
  simp [zeroValue, typeInfo, h1, h2, ez, tabv_size]
  rw [h3, if_neg (by omega), if_neg (by omega), e]
  simp [newRow]
theorem msgs_one (w : World) (s : Msg) : Msgs (w.alloc (.cells (tabv s.v 70) 36)) (some ⟨w.heap.size, 0, none⟩) [s] := .inr ⟨w.heap.size, 0, rfl, by simp, fun i u hu => by
  have hi : i = 0 := by have := (List.getElem?_eq_some_iff.1 hu).1; simp at this; exact this
  subst hi
  simp only [List.getElem?_cons_zero, Option.some.injEq] at hu
  subst hu
  have h := Has.new w 36 s.v 70 _ rfl
  intro j hj
  rw [show 0 + 0 * 70 + j = j by omega]
  exact h.cell j hj⟩
/-- append of one update, and where the row then lies. -/
theorem appM_at (w : World) (B : Nat) (v : Value) (l : List Msg) (s : Msg) (hown : OwnM B w v l) (hsz : (l.length + 1) * 120 ≤ 140737488355328) (hB : B ≤ w.heap.size) :
    ∃ v' w1 w', (Instr.buildSlice 70 1 #[(0, .agg (tabv s.v 70))]).run Tryz.prog w = .ok (.slice (some ⟨w.heap.size, 0, none⟩) 1 1) w1 ∧ (Builtin.append_ #[70, 70] 70 #[v, .slice (some ⟨w.heap.size, 0, none⟩) 1 1]).run Tryz.prog w1 = .ok v' w' ∧
      OwnM B w' v' (l ++ [s]) ∧ (∀ g, g < w.heap.size → v.ownBlock ≠ some g → w'.heap[g]? = w.heap[g]?) ∧ Below B w w' ∧ (∀ k, v'.ownBlock = some k → v.ownBlock = some k ∨ w.heap.size ≤ k) ∧ w1 = w.alloc (.cells (tabv s.v 70) 36) := by
  obtain ⟨i, h1, h2, h3, h4⟩ := infoMP
  have hb : Has (w.alloc (.cells (tabv s.v 70) 36)) w.heap.size 36 s.v 70 := Has.new w 36 s.v 70 _ rfl
  have ho : OwnM B (w.alloc (.cells (tabv s.v 70) 36)) v l := World.ownsRow.alloc hown _
  obtain ⟨v', w', e1, e2, e3, _, e5⟩ := run_append_own_at (P := Tryz.prog) (w.alloc (.cells (tabv s.v 70) 36)) B 70 70 36 i _ 70 120 Tryz.underlying70 h1 h2 h3 h4 (by rfl) (by omega) v l.length (cellsM l) ho ⟨w.heap.size, 0, none⟩ 1 1 (cellsM [s]) (by rw [cellsM_length]; rfl)
    (fun j u hj => by
      have hj' : j < 70 := by have := (List.getElem?_eq_some_iff.1 hj).1; rw [cellsM_length] at this; simpa using this
      have hadd : (⟨w.heap.size, 0, none⟩ : Addr).add j = ⟨w.heap.size, j, none⟩ := by unfold Addr.add; split <;> simp_all
      rw [hadd, hb.cell j hj', ← hj, cellsM_one, Array.getElem?_toList, tabv_get _ _ _ hj'])
    (oneCell_M _) (by unfold maxLen; omega) hsz (by rw [size_alloc]; omega)
  obtain ⟨q1, q2⟩ := grown_all e3 (fun k hk => (hown.lt k hk).1) hB
  refine ⟨v', _, w', run_sliceM w s, e1, ?_, q1, q2, ?_, rfl⟩
  · unfold OwnM
    rw [List.length_append, cellsM_append]
    exact e2
  · intro k hk
    rcases e5 with e5 | e5
    · exact .inl (by rw [← e5]; exact hk)
    · rw [e5] at hk
      cases hk
      exact .inr (by rw [size_alloc]; omega)
end Go.Proofs.YtmmcoedgoekhgaaGreatDoor
/-
  == OF COUNTS, UPDATES, HASHES; parts of a record (picked out of record's texts by mkstate.sh).
-/
namespace Go.Proofs.YtmmcoedgoekhgaaGreatDoor
open Go.RowKit S
set_option linter.unusedVariables false
set_option linter.unusedSimpArgs false
theorem guardC : Tryz.prog.eqGuardType Tryz.prog.depth 29 = false := by kernel_rfl
theorem fieldsC : (Tryz.prog.fieldsOf 29).toList.map (fun f => (f.name, f.type, f.offset)) = [("Ours", 3, 0), ("Peers", 3, 1)] := by kernel_rfl
theorem eqCD (w : World) (a b c d : Int) : (Op.equalIn 10000 29 (.agg (tabv (ctv a b) 2)) (.agg (tabv (ctv c d) 2))).run Tryz.prog w = .ok ((a == c) && (b == d)) w := by
  rw [run_equalIn_struct w 9999 29 _ _ (by kernel_rfl) (by kernel_rfl)]
  have hf := fieldsC
  generalize (Tryz.prog.fieldsOf 29).toList = fs at hf
  rcases fs with _ | ⟨f0, _ | ⟨f1, _ | ⟨f2, fs⟩⟩⟩
  · simp at hf
  · simp at hf
  · simp only [List.map_cons, List.map_nil, List.cons.injEq, Prod.mk.injEq, and_true] at hf
    obtain ⟨⟨n0, t0, o0⟩, n1, t1, o1⟩ := hf
    have p0 : ∀ a b : Int, (part 3 (tabv (ctv a b) 2) 0).run Tryz.prog w = .ok (.int .i64 a) w := fun a b => by simp [part, isAgg, run_underlying Tryz.underlying3, tabv_get _ _ _ (show 0 < 2 by omega), ctv]
    have p1 : ∀ a b : Int, (part 3 (tabv (ctv a b) 2) 1).run Tryz.prog w = .ok (.int .i64 b) w := fun a b => by simp [part, isAgg, run_underlying Tryz.underlying3, tabv_get _ _ _ (show 1 < 2 by omega), ctv]
    have q0 : ∀ a b : Int, (Op.equalIn 9999 3 (.int .i64 a) (.int .i64 b)).run Tryz.prog w = .ok (a == b) w := fun a b => run_equalIn_int w 9998 3 .i64 .i64 _ _ Tryz.underlying3
    have m0 : f0.name ≠ "_" := by rw [n0]; decide
    have m1 : f1.name ≠ "_" := by rw [n1]; decide
    simp only [Op.eqFields, if_pos m0, if_pos m1, t0, t1, o0, o1, Sem.run_bind, p0, q0, Result.andThen_ok]
    cases a == c
    · simp
    · cases hq : b == d <;> simp [p1, q0, hq]
  · simp at hf
theorem run_eqC {o : Oper} {a : Act} (w : World) (x y : Operand) (A B : Array Value) (R : Bool) (ho : o.op = .binOp .eql 29 x y 29) (hx : a.eval x = .agg A) (hy : a.eval y = .agg B)
    (hq : ∀ w : World, (Op.equalIn 10000 29 (.agg A) (.agg B)).run Tryz.prog w = .ok R w) : (execOp a.eval o).run Tryz.prog w = .ok (.value (.bool R)) w := by
  have gh := guardC
  unfold execOp
  simp only [ho, hx, hy]
  go_simp
theorem wpW_eqC {ops : Array Oper} {rest : List Oper} {o : Oper} {a : Act} {w : World} {Q : Exit → Act → World → Prop} (hw : Region.wanted o (yielded ops a.tmps) = true) (x y : Operand) (ho : o.op = .binOp .eql 29 x y 29) (A B : Array Value) (R : Bool) (hx : a.eval x = .agg A) (hy : a.eval y = .agg B)
    (hq : ∀ w : World, (Op.equalIn 10000 29 (.agg A) (.agg B)).run Tryz.prog w = .ok R w) (k : wpList Tryz.prog ops Q rest (a.put o.dst (.bool R)) w) : wpList Tryz.prog ops Q (o :: rest) a w := by
  refine wpList_step fun K hK => ?_
  rw [if_pos hw]
  exact wpRun (run_eqC w x y A B R ho hx hy hq) (hK _ _ k)
theorem run_eqHq {o : Oper} {a : Act} (w : World) (x y : Operand) (A B : Array Value) (R : Bool) (ho : o.op = .binOp .eql 23 x y 23) (hx : a.eval x = .agg A) (hy : a.eval y = .agg B)
    (hq : ∀ w : World, (Op.equalIn 10000 23 (.agg A) (.agg B)).run Tryz.prog w = .ok R w) : (execOp a.eval o).run Tryz.prog w = .ok (.value (.bool R)) w := by
  have gh := guard26
  unfold execOp
  simp only [ho, hx, hy]
  go_simp
theorem wpW_eqH {ops : Array Oper} {rest : List Oper} {o : Oper} {a : Act} {w : World} {Q : Exit → Act → World → Prop} (hw : Region.wanted o (yielded ops a.tmps) = true) (x y : Operand) (ho : o.op = .binOp .eql 23 x y 23) (A B : Array Value) (R : Bool) (hx : a.eval x = .agg A) (hy : a.eval y = .agg B)
    (hq : ∀ w : World, (Op.equalIn 10000 23 (.agg A) (.agg B)).run Tryz.prog w = .ok R w) (k : wpList Tryz.prog ops Q rest (a.put o.dst (.bool R)) w) : wpList Tryz.prog ops Q (o :: rest) a w := by
  refine wpList_step fun K hK => ?_
  rw [if_pos hw]
  exact wpRun (run_eqHq w x y A B R ho hx hy hq) (hK _ _ k)
end Go.Proofs.YtmmcoedgoekhgaaGreatDoor
/-
  signedText of the code (printed by gen_d10.py).
-/
namespace Go.Proofs.YtmmcoedgoekhgaaGreatDoor
open Go.RowKit S
set_option linter.unusedVariables false
set_option linter.unusedSimpArgs false
def sgF (s : St) (mine others : List Upd) : FA := foldA s.bo s.bp mine others s.so s.sp
set_option maxRecDepth 100000 in
set_option maxHeartbeats 40000000 in
theorem signedText_any (s : St) (mine others : List Upd) (hn1 : mine.length = s.ours.n) (hn2 : others.length = s.peers.n) (z1 : s.ours.n ≤ 1955000000000) (z2 : s.peers.n ≤ 1955000000000) (k1 : s.ours.n ≤ s.ours.c) (k2 : s.peers.n ≤ s.peers.c) (w : World) (hS1 : Upds w s.ours.ad mine) (hS2 : Upds w s.peers.ad others) : Calls Tryz.prog 46 #[.agg (tabv s.v 115)] w fun e w' => ∃ b c, e = .returned (.tuple #[.string b, .int .i64 c]) ∧ TX (sgF s mine others) (IntKind.i64.wrap (1 - s.side)) s.rem (bif s.rem != s.ack then s.p1 else s.p0) (sgF s mine others).y (sgF s mine others).x (turnP (sgF s mine others).l) b c ∧ Below w.heap.size w w' := by
  obtain ⟨w1, hW1⟩ : ∃ wX, w.alloc (.cells (tabv s.v 115) 32) = wX := ⟨_, rfl⟩
  have rs : Has w1 w.heap.size 32 s.v 115 := by rw [← hW1]; exact Has.new w 32 s.v 115 _ rfl
  have bb : Below w.heap.size w w1 := by rw [← hW1]; exact (Below.refl w.heap.size w).alloc (Nat.le_refl _) _
  have gb : Below w.heap.size w w1 := bb
  clear bb
  have Rb_s := hide rs
  have GB := hide gb
  clear gb rs
  have HLEN := hide (fold_len s.bo s.bp mine others s.so s.sp (by omega) (by omega))
  have HF := hide (fun wx (hb : Below w.heap.size w wx) => fold_all s.bo s.bp s.ours.ad s.peers.ad s.ours.n s.ours.c s.peers.n s.peers.c mine others hn1 hn2 z1 z2 k1 k2 s.so s.sp wx (hS1.below hb) (hS2.below hb))
  unfold sgF
  generalize foldA s.bo s.bp mine others s.so s.sp = F at HF HLEN ⊢
  clear hn1 hn2 z1 z2 k1 k2 hS1 hS2
  have hs0 : ∀ wx, Has wx (w.heap.size) 32 s.v 115 → wx.cell? ⟨w.heap.size, 0, none⟩ = some (.int .i64 s.side) := fun wx h => h.cell 0 (by omega)
  have hs7 : ∀ wx, Has wx (w.heap.size) 32 s.v 115 → wx.cell? ⟨w.heap.size, 7, none⟩ = some (.int .i64 s.rem) := fun wx h => h.cell 7 (by omega)
  have hs8 : ∀ wx, Has wx (w.heap.size) 32 s.v 115 → wx.cell? ⟨w.heap.size, 8, none⟩ = some (.int .i64 s.ack) := fun wx h => h.cell 8 (by omega)
  generalize s.side = sd at hs0 ⊢
  generalize s.rem = re at hs7 ⊢
  generalize s.ack = ak at hs8 ⊢
  replace hs0 := hide hs0
  replace hs7 := hide hs7
  replace hs8 := hide hs8
  have hp0 : ∀ wx, Has wx (w.heap.size) 32 s.v 115 → At wx w.heap.size 16 (bv s.p0) 32 := fun wx h => h.at_ 16 (by omega) (fun i hi => s.v_p0 i hi)
  have hp1 : ∀ wx, Has wx (w.heap.size) 32 s.v 115 → At wx w.heap.size 48 (bv s.p1) 32 := fun wx h => h.at_ 48 (by omega) (fun i hi => s.v_p1 i hi)
  generalize s.p0 = p0 at hp0 ⊢
  generalize s.p1 = p1 at hp1 ⊢
  replace hp0 := hide hp0
  replace hp1 := hide hp1
  obtain ⟨E, X, Y, LL⟩ := F
  obtain ⟨PT, hPT⟩ : ∃ x, (bif re != ak then p1 else p0) = x := ⟨_, rfl⟩
  rw [hPT]
  have HPT := hide hPT
  clear hPT
  go_enter Tryz.func46, Tryz.ntmps46
  have z0_s2 : w1.cell? ⟨w.heap.size, 2, none⟩ = some (.int .i64 s.bo) := Rb_s.out.cell 2 (by omega)
  have z0_s3 : w1.cell? ⟨w.heap.size, 3, none⟩ = some (.int .i64 s.bp) := Rb_s.out.cell 3 (by omega)
  have z0_s4 : w1.cell? ⟨w.heap.size, 4, none⟩ = some (.slice s.ours.ad s.ours.n s.ours.c) := Rb_s.out.cell 4 (by omega)
  have z0_s5 : w1.cell? ⟨w.heap.size, 5, none⟩ = some (.slice s.peers.ad s.peers.n s.peers.c) := Rb_s.out.cell 5 (by omega)
  have z0_s11 : w1.cell? ⟨w.heap.size, 11, none⟩ = some (.int .i64 s.so) := Rb_s.out.cell 11 (by omega)
  have z0_s12 : w1.cell? ⟨w.heap.size, 12, none⟩ = some (.int .i64 s.sp) := Rb_s.out.cell 12 (by omega)
  go_wp2_with (fail)
  refine (HF.out _ GB.out).mono ?_
  rintro e y1 ⟨v, rfl, hO, hb⟩
  clear z0_s2 z0_s3 z0_s4 z0_s5 z0_s11 z0_s12
  obtain ⟨ad, cap, rfl, hP, hlt, _, _⟩ := hO.pens
  clear hO hlt
  have Ry1_s := hide (Rb_s.out.below hb Rb_s.out.lt)
  have Gy1 := hide (GB.out.trans (hb.mono GB.out.size))
  clear hb
  have HP := hide hP
  clear hP
  obtain ⟨V1, V2, hV1, rV1, hV2, rV2, hb⟩ := newLd y1 X Y (.slice ad LL.length cap)
  have RV1 := hide rV1
  have RL := hide rV2
  have HP2 := hide (HP.out.below hb)
  clear rV1 rV2
  have RV2_s := hide (Ry1_s.out.below hb Ry1_s.out.lt)
  have GV2 := hide (Gy1.out.trans (hb.mono Gy1.out.size))
  clear hb
  cases qE : (E != 0) with
  | true =>
    go_wp2_with (first | (rw [hV1]) | (refine wpList_storeL rfl _ _ rfl rfl y1.heap.size X Y (.slice ad LL.length cap) rfl rfl rfl _ RV1.out ?_; rw [hV2]) | fail)
    go_ret2
    exact ⟨_, _, rfl, ⟨fun _ => ⟨rfl, rfl⟩, fun h => by have h : E = 0 := h; rw [h] at qE; simp at qE⟩, GV2.out⟩
  | false =>
    have E0 := hide (show E = 0 by simpa using qE)
    go_upto_region 4 with (first | (rw [hV1]) | (refine wpList_storeL rfl _ _ rfl rfl y1.heap.size X Y (.slice ad LL.length cap) rfl rfl rfl _ RV1.out ?_; rw [hV2]) | fail)
    obtain ⟨U1, U2, hU1, rU1, hU2, rU2, hb⟩ := newHs V2 p0
    have RU1 := hide rU1
    have RU2 := hide rU2
    have HP3 := hide (HP2.out.below hb)
    clear rU1 rU2
    have RU2_s := hide (RV2_s.out.below hb RV2_s.out.lt)
    have RU2_l := hide (RL.out.below hb RL.out.lt)
    have GU2 := hide (GV2.out.trans (hb.mono GV2.out.size))
    clear hb
    have z1_s7 : U2.cell? ⟨w.heap.size, 7, none⟩ = some (.int .i64 re) := hs7.out _ RU2_s.out
    have z1_s8 : U2.cell? ⟨w.heap.size, 8, none⟩ = some (.int .i64 ak) := hs8.out _ RU2_s.out
    rw [zero32] at hU1
    go_upto_region 5 with (first | (rw [hU1]) | (refine wpW_load_at 23 _ rfl (w.heap.size) (16) (by rfl) (by rfl) _ 32 _ (hp0.out _ RV2_s.out) Tryz.underlying23 rfl info26 ?_) | (refine wpList_storeHs rfl _ _ rfl rfl V2.heap.size p0 rfl rfl _ RU1.out ?_; rw [hU2]) | fail)
    try rw [hU2]
    have LP : V2.heap.size < U2.heap.size := RU2.out.lt
    cases q : (re != ak) with
    | true =>
      obtain rfl : p1 = PT := by have h := HPT.out; rw [q] at h; exact h
      obtain ⟨U3, hU3⟩ : ∃ x, U2.setRow V2.heap.size (tabv (bv p1) 32) = x := ⟨_, rfl⟩
      have RP := hide (show Has U3 V2.heap.size 23 (bv p1) 32 by rw [← hU3]; exact RU2.out.row _ _ rfl)
      have S3 := hide (show Has U3 w.heap.size 32 s.v 115 by rw [← hU3]; exact RU2_s.out.row_other _ _ (by have := RV2_s.out.lt; omega))
      have L3 := hide (show Has U3 y1.heap.size 143 (ledv X Y (.slice ad LL.length cap)) 3 by rw [← hU3]; exact RU2_l.out.row_other _ _ (by have := RL.out.lt; omega))
      have HP4 := hide (show Pens U3 ad LL by rw [← hU3]; exact HP2.out.below (below_setRow (by rw [← hU2, ← hU1] ; exact below_setRow ((Below.refl _ _).alloc (Nat.le_refl _) _) (Nat.le_refl _) _) (Nat.le_refl _) _))
      have G3 := hide (show Below w.heap.size w U3 by rw [← hU3]; exact below_setRow GU2.out (by have := GV2.out.size; omega) _)
      go_upto_region 7 with (first | (refine wpW_load_at 23 _ rfl (w.heap.size) (48) (by rfl) (by rfl) _ 32 _ (hp1.out _ RU2_s.out) Tryz.underlying23 rfl info26 ?_) | (refine wpList_storeHs rfl _ _ rfl rfl V2.heap.size p1 rfl rfl _ RU2.out ?_; rw [hU3]) | fail)
      try rw [hU3]
      refine wp_region_noPanic ?_
      refine wp_region_held_drew (S := fun wx => Below U3.heap.size U3 wx) (by kernel_rfl) ((Below.refl _ _).drew) (fun hHeld => ?_)
      generalize hwd : World.drew U3 = wd at hHeld ⊢
      refine Cu.takeH 0 (some 35) (.pointer (some ⟨w.heap.size, 0, none⟩)) rfl rfl (by kernel_rfl) (by kernel_rfl) (by kernel_rfl) (fun _ _ _ h => h) (by rfl) (fun w_ hw => by first | rfl | (go_simp; done) | (go_simp; rfl) | (go_simp; omega)) hHeld ?_
      simp only [Act.put, List.setIfInBounds_toArray, List.set_cons_zero, List.set_cons_succ]
      refine Cu.takeH 1 (some 36) (.int .i64 sd) rfl rfl (by kernel_rfl) (by kernel_rfl) (by kernel_rfl) (fun _ _ _ h => h) (by rfl) (fun w_ hw => by have c : World.cell? _ ⟨w.heap.size, 0, none⟩ = some (.int .i64 sd) := hs0.out _ (S3.out.below hw S3.out.lt); first | rfl | (go_simp; done) | (go_simp; rfl) | (go_simp; omega)) hHeld ?_
      simp only [Act.put, List.setIfInBounds_toArray, List.set_cons_zero, List.set_cons_succ]
      refine Cu.takeH 2 (some 37) (.int .i64 (IntKind.i64.wrap (1 - sd))) rfl rfl (by kernel_rfl) (by kernel_rfl) (by kernel_rfl) (fun _ _ _ h => h) (by rfl) (fun w_ hw => by first | rfl | (go_simp; done) | (go_simp; rfl) | (go_simp; omega)) hHeld ?_
      simp only [Act.put, List.setIfInBounds_toArray, List.set_cons_zero, List.set_cons_succ]
      refine Cu.takeH 3 (some 38) (.pointer (some ⟨w.heap.size, 7, none⟩)) rfl rfl (by kernel_rfl) (by kernel_rfl) (by kernel_rfl) (fun _ _ _ h => h) (by rfl) (fun w_ hw => by first | rfl | (go_simp; done) | (go_simp; rfl) | (go_simp; omega)) hHeld ?_
      simp only [Act.put, List.setIfInBounds_toArray, List.set_cons_zero, List.set_cons_succ]
      refine Cu.takeH 4 (some 39) (.int .i64 re) rfl rfl (by kernel_rfl) (by kernel_rfl) (by kernel_rfl) (fun _ _ _ h => h) (by rfl) (fun w_ hw => by have c : World.cell? _ ⟨w.heap.size, 7, none⟩ = some (.int .i64 re) := hs7.out _ (S3.out.below hw S3.out.lt); first | rfl | (go_simp; done) | (go_simp; rfl) | (go_simp; omega)) hHeld ?_
      simp only [Act.put, List.setIfInBounds_toArray, List.set_cons_zero, List.set_cons_succ]
      refine Cu.takeH 5 (some 40) (.agg (tabv (bv p1) 32)) rfl rfl (by kernel_rfl) (by kernel_rfl) (by kernel_rfl) (fun _ _ _ h => h) (by rfl) (fun w_ hw => run_load_at w_ 23 _ rfl (V2.heap.size) 0 (by rfl) _ 32 _ ((RP.out.below hw RP.out.lt).at_ 0 (by omega) (fun i hi => by rw [Nat.zero_add])) Tryz.underlying23 rfl info26) hHeld ?_
      simp only [Act.put, List.setIfInBounds_toArray, List.set_cons_zero, List.set_cons_succ]
      refine Cu.takeH 6 (some 41) (.agg (tabv (ledv X Y (.slice ad LL.length cap)) 3)) rfl rfl (by kernel_rfl) (by kernel_rfl) (by kernel_rfl) (fun _ _ _ h => h) (by rfl) (fun w_ hw => run_load_at w_ 143 _ rfl (y1.heap.size) 0 (by rfl) _ 3 _ ((L3.out.below hw L3.out.lt).at_ 0 (by omega) (fun i hi => by rw [Nat.zero_add])) Tryz.underlying143 rfl infoLg) hHeld ?_
      simp only [Act.put, List.setIfInBounds_toArray, List.set_cons_zero, List.set_cons_succ]
      refine wpAnyH_ready (rs := [7]) (by kernel_rfl) (by simp) (AllReadyH.cons rfl (fun K hK => ?_) AllReadyH.nil)
      rw [if_pos (by rfl)]
      go_simp
      refine (turn_any X Y ad LL.length cap LL rfl HLEN.out _ (HP4.out.below hHeld)).mono ?_
      rintro e yt ⟨⟨v, rfl, hOt⟩, hbq⟩
      try go_wp2_with fail
      obtain ⟨ad2, cap2, rfl, hP2, _, _, _⟩ := hOt.pens
      have HT := hide hP2
      clear hOt hP2
      refine hK.out _ _ (hHeld.trans (hbq.mono hHeld.size)) (fun hH => ?_)
      clear hK K hHeld
      have hHeld := hH
      clear hH
      refine wpAnyH_ready (rs := [8]) (by kernel_rfl) (by simp) (AllReadyH.cons rfl (fun K hK => ?_) AllReadyH.nil)
      rw [if_pos (by rfl)]
      go_simp
      refine (text_any (IntKind.i64.wrap (1 - sd)) re p1 Y X ad2 (turnP LL).length cap2 (turnP LL) rfl (by rw [turn_len]; exact HLEN.out) _ HT.out).mono ?_
      rintro e yx ⟨tb, tc, rfl, hTA, hbq⟩
      try go_wp2_with fail
      refine hK.out _ _ (hHeld.trans (hbq.mono hHeld.size)) (fun hH => ?_)
      clear hK K hHeld
      have hHeld := hH
      clear hH
      refine Cu.takeH 9 (some 44) (.string tb) rfl rfl (by kernel_rfl) (by kernel_rfl) (by kernel_rfl) (fun _ _ _ h => h) (by rfl) (fun w_ hw => kext0 w_ _ _ _ rfl (by rfl)) hHeld ?_
      simp only [Act.put, List.setIfInBounds_toArray, List.set_cons_zero, List.set_cons_succ]
      refine Cu.takeH 10 (some 45) (.int .i64 tc) rfl rfl (by kernel_rfl) (by kernel_rfl) (by kernel_rfl) (fun _ _ _ h => h) (by rfl) (fun w_ hw => kext1 w_ _ _ _ rfl (by rfl)) hHeld ?_
      simp only [Act.put, List.setIfInBounds_toArray, List.set_cons_zero, List.set_cons_succ]
      refine Cu.takeH 11 (some 2) (.string tb) rfl rfl (by kernel_rfl) (by kernel_rfl) (by kernel_rfl) (fun _ _ _ h => h) (by rfl) (fun w_ hw => kasg w_ _ _ rfl (by rfl)) hHeld ?_
      simp only [Act.put, List.setIfInBounds_toArray, List.set_cons_zero, List.set_cons_succ]
      refine Cu.takeH 12 (some 3) (.int .i64 tc) rfl rfl (by kernel_rfl) (by kernel_rfl) (by kernel_rfl) (fun _ _ _ h => h) (by rfl) (fun w_ hw => kasg w_ _ _ rfl (by rfl)) hHeld ?_
      simp only [Act.put, List.setIfInBounds_toArray, List.set_cons_zero, List.set_cons_succ]
      refine ⟨by kernel_rfl, ?_⟩
      refine NoPanic.normal ?_
      have BF := hide (G3.out.trans (hHeld.mono G3.out.size))
      clear hHeld hwd
      have TT := hide hTA
      clear hTA
      go_wp2
      go_ret2
      exact ⟨tb, tc, rfl, ⟨fun h => absurd E0.out h, fun _ => TT.out⟩, BF.out⟩
    | false =>
      obtain rfl : p0 = PT := by have h := HPT.out; rw [q] at h; exact h
      go_upto_region 7 with fail
      refine wp_region_noPanic ?_
      refine wp_region_held_drew (S := fun wx => Below U2.heap.size U2 wx) (by kernel_rfl) ((Below.refl _ _).drew) (fun hHeld => ?_)
      generalize hwd : World.drew U2 = wd at hHeld ⊢
      refine Cu.takeH 0 (some 35) (.pointer (some ⟨w.heap.size, 0, none⟩)) rfl rfl (by kernel_rfl) (by kernel_rfl) (by kernel_rfl) (fun _ _ _ h => h) (by rfl) (fun w_ hw => by first | rfl | (go_simp; done) | (go_simp; rfl) | (go_simp; omega)) hHeld ?_
      simp only [Act.put, List.setIfInBounds_toArray, List.set_cons_zero, List.set_cons_succ]
      refine Cu.takeH 1 (some 36) (.int .i64 sd) rfl rfl (by kernel_rfl) (by kernel_rfl) (by kernel_rfl) (fun _ _ _ h => h) (by rfl) (fun w_ hw => by have c : World.cell? _ ⟨w.heap.size, 0, none⟩ = some (.int .i64 sd) := hs0.out _ (RU2_s.out.below hw RU2_s.out.lt); first | rfl | (go_simp; done) | (go_simp; rfl) | (go_simp; omega)) hHeld ?_
      simp only [Act.put, List.setIfInBounds_toArray, List.set_cons_zero, List.set_cons_succ]
      refine Cu.takeH 2 (some 37) (.int .i64 (IntKind.i64.wrap (1 - sd))) rfl rfl (by kernel_rfl) (by kernel_rfl) (by kernel_rfl) (fun _ _ _ h => h) (by rfl) (fun w_ hw => by first | rfl | (go_simp; done) | (go_simp; rfl) | (go_simp; omega)) hHeld ?_
      simp only [Act.put, List.setIfInBounds_toArray, List.set_cons_zero, List.set_cons_succ]
      refine Cu.takeH 3 (some 38) (.pointer (some ⟨w.heap.size, 7, none⟩)) rfl rfl (by kernel_rfl) (by kernel_rfl) (by kernel_rfl) (fun _ _ _ h => h) (by rfl) (fun w_ hw => by first | rfl | (go_simp; done) | (go_simp; rfl) | (go_simp; omega)) hHeld ?_
      simp only [Act.put, List.setIfInBounds_toArray, List.set_cons_zero, List.set_cons_succ]
      refine Cu.takeH 4 (some 39) (.int .i64 re) rfl rfl (by kernel_rfl) (by kernel_rfl) (by kernel_rfl) (fun _ _ _ h => h) (by rfl) (fun w_ hw => by have c : World.cell? _ ⟨w.heap.size, 7, none⟩ = some (.int .i64 re) := hs7.out _ (RU2_s.out.below hw RU2_s.out.lt); first | rfl | (go_simp; done) | (go_simp; rfl) | (go_simp; omega)) hHeld ?_
      simp only [Act.put, List.setIfInBounds_toArray, List.set_cons_zero, List.set_cons_succ]
      refine Cu.takeH 5 (some 40) (.agg (tabv (bv p0) 32)) rfl rfl (by kernel_rfl) (by kernel_rfl) (by kernel_rfl) (fun _ _ _ h => h) (by rfl) (fun w_ hw => run_load_at w_ 23 _ rfl (V2.heap.size) 0 (by rfl) _ 32 _ ((RU2.out.below hw RU2.out.lt).at_ 0 (by omega) (fun i hi => by rw [Nat.zero_add])) Tryz.underlying23 rfl info26) hHeld ?_
      simp only [Act.put, List.setIfInBounds_toArray, List.set_cons_zero, List.set_cons_succ]
      refine Cu.takeH 6 (some 41) (.agg (tabv (ledv X Y (.slice ad LL.length cap)) 3)) rfl rfl (by kernel_rfl) (by kernel_rfl) (by kernel_rfl) (fun _ _ _ h => h) (by rfl) (fun w_ hw => run_load_at w_ 143 _ rfl (y1.heap.size) 0 (by rfl) _ 3 _ ((RU2_l.out.below hw RU2_l.out.lt).at_ 0 (by omega) (fun i hi => by rw [Nat.zero_add])) Tryz.underlying143 rfl infoLg) hHeld ?_
      simp only [Act.put, List.setIfInBounds_toArray, List.set_cons_zero, List.set_cons_succ]
      refine wpAnyH_ready (rs := [7]) (by kernel_rfl) (by simp) (AllReadyH.cons rfl (fun K hK => ?_) AllReadyH.nil)
      rw [if_pos (by rfl)]
      go_simp
      refine (turn_any X Y ad LL.length cap LL rfl HLEN.out _ (HP3.out.below hHeld)).mono ?_
      rintro e yt ⟨⟨v, rfl, hOt⟩, hbq⟩
      try go_wp2_with fail
      obtain ⟨ad2, cap2, rfl, hP2, _, _, _⟩ := hOt.pens
      have HT := hide hP2
      clear hOt hP2
      refine hK.out _ _ (hHeld.trans (hbq.mono hHeld.size)) (fun hH => ?_)
      clear hK K hHeld
      have hHeld := hH
      clear hH
      refine wpAnyH_ready (rs := [8]) (by kernel_rfl) (by simp) (AllReadyH.cons rfl (fun K hK => ?_) AllReadyH.nil)
      rw [if_pos (by rfl)]
      go_simp
      refine (text_any (IntKind.i64.wrap (1 - sd)) re p0 Y X ad2 (turnP LL).length cap2 (turnP LL) rfl (by rw [turn_len]; exact HLEN.out) _ HT.out).mono ?_
      rintro e yx ⟨tb, tc, rfl, hTA, hbq⟩
      try go_wp2_with fail
      refine hK.out _ _ (hHeld.trans (hbq.mono hHeld.size)) (fun hH => ?_)
      clear hK K hHeld
      have hHeld := hH
      clear hH
      refine Cu.takeH 9 (some 44) (.string tb) rfl rfl (by kernel_rfl) (by kernel_rfl) (by kernel_rfl) (fun _ _ _ h => h) (by rfl) (fun w_ hw => kext0 w_ _ _ _ rfl (by rfl)) hHeld ?_
      simp only [Act.put, List.setIfInBounds_toArray, List.set_cons_zero, List.set_cons_succ]
      refine Cu.takeH 10 (some 45) (.int .i64 tc) rfl rfl (by kernel_rfl) (by kernel_rfl) (by kernel_rfl) (fun _ _ _ h => h) (by rfl) (fun w_ hw => kext1 w_ _ _ _ rfl (by rfl)) hHeld ?_
      simp only [Act.put, List.setIfInBounds_toArray, List.set_cons_zero, List.set_cons_succ]
      refine Cu.takeH 11 (some 2) (.string tb) rfl rfl (by kernel_rfl) (by kernel_rfl) (by kernel_rfl) (fun _ _ _ h => h) (by rfl) (fun w_ hw => kasg w_ _ _ rfl (by rfl)) hHeld ?_
      simp only [Act.put, List.setIfInBounds_toArray, List.set_cons_zero, List.set_cons_succ]
      refine Cu.takeH 12 (some 3) (.int .i64 tc) rfl rfl (by kernel_rfl) (by kernel_rfl) (by kernel_rfl) (fun _ _ _ h => h) (by rfl) (fun w_ hw => kasg w_ _ _ rfl (by rfl)) hHeld ?_
      simp only [Act.put, List.setIfInBounds_toArray, List.set_cons_zero, List.set_cons_succ]
      refine ⟨by kernel_rfl, ?_⟩
      refine NoPanic.normal ?_
      have BF := hide (GU2.out.trans (hHeld.mono GU2.out.size))
      clear hHeld hwd
      have TT := hide hTA
      clear hTA
      go_wp2
      go_ret2
      exact ⟨tb, tc, rfl, ⟨fun h => absurd E0.out h, fun _ => TT.out⟩, BF.out⟩
end Go.Proofs.YtmmcoedgoekhgaaGreatDoor
