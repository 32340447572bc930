/-
  Ledger: what the adds of a side make of both balances, and which are open (printed by gen_set.py).
-/
import Derived.Test.YtmmcoedgoekhgaaGreatDoorGSort
namespace Go.Proofs.YtmmcoedgoekhgaaGreatDoor
set_option maxRecDepth 20000
open Go.RowKit S Go.Shelf Go.Sort
set_option linter.unusedVariables false
set_option linter.unusedSimpArgs false
def penOf (o : Bool) (u : Upd) : Pen := ⟨o, u.id, u.amt, u.hash⟩
def opensL (o : Bool) (b a : List Upd) : List Pen := (a.filter (openB b)).map (penOf o)
theorem opens_next {o : Bool} {b a : List Upd} {j : Nat} {x : Upd} (h : a[j]? = some x) : opensL o b (a.take (j + 1)) = opensL o b (a.take j) ++ (if openB b x = true then [penOf o x] else []) := by
  unfold opensL
  rw [take_snoc h, List.filter_append, List.map_append]
  by_cases e : openB b x = true <;> simp [e]
theorem opens_len (o : Bool) (b a : List Upd) : (opensL o b a).length ≤ a.length := by unfold opensL; rw [List.length_map]; exact List.length_filter_le _ _
def Pen.zv : Nat → Value := fun i => if i = 0 then .bool false else if i = 1 then .int .i64 0 else if i = 2 then .int .i64 0 else .int .u8 0
theorem infoPP : ∃ i, Tryz.prog.info? 186 = some i ∧ i.zero = some (.agg (tabv Pen.zv 35)) ∧ i.size = 35 ∧ i.bytes = 56 := by
  have h : (Tryz.prog.info? 186).map (fun i => (i.zero, i.size, i.bytes)) = some (some (.agg (tabv Pen.zv 35)), 35, 56) := by kernel_rfl
  cases hq : Tryz.prog.info? 186 with
  | none => simp [hq] at h
  | some i => simp [hq] at h; exact ⟨i, rfl, h.1, h.2.1, h.2.2⟩
set_option maxRecDepth 100000 in
theorem run_sliceP (w : World) (s : Pen) : (Instr.buildSlice 141 1 #[(0, .agg (tabv s.v 35))]).run Tryz.prog w = .ok (.slice (some ⟨w.heap.size, 0, none⟩) 1 1) (w.alloc (.cells (tabv s.v 35) 186)) := by
  obtain ⟨i, h1, h2, h3, h4⟩ := infoPP
  have e : Instr.fill (fun i => some (i * 35, 35)) ((Array.range 35).map ((tabv Pen.zv 35)[· % 35]!)) [(0, .agg (tabv s.v 35))] = some (tabv s.v 35) := by kernel_rfl
  have ez : (Value.agg (tabv Pen.zv 35)).cells = tabv Pen.zv 35 := rfl
  simp only [Instr.buildSlice, Sem.run_bind, run_underlying Tryz.underlying141, Result.andThen_ok, sizeOf, typeInfo, h1, h3]
  simp [zeroValue, typeInfo, h1, h2, ez, tabv_size]
  rw [h3, if_neg (by omega), if_neg (by omega), e]
  simp [newRow]
theorem OwnP.nil (B : Nat) (w : World) : OwnP B w (.slice none 0 0) [] := World.ownsRow_nil w B _ _
theorem OwnP.lt {B : Nat} {w : World} {v : Value} {l : List Pen} (h : OwnP B w v l) : ∀ k, v.ownBlock = some k → B ≤ k ∧ k < w.heap.size := World.ownsRow.lt h
theorem OwnP.same {B : Nat} {w w' : World} {v : Value} {l : List Pen} (h : OwnP B w v l) (e : ∀ k, v.ownBlock = some k → w'.heap[k]? = w.heap[k]?) : OwnP B w' v l := by
  refine ⟨h.1, h.2.imp id fun ⟨g, cap, cur, h1, h2, h3, h4⟩ => ⟨g, cap, cur, h1, h2, ?_, h4⟩⟩
  rw [e g (by rw [h1]; rfl), h3]
theorem OwnP.below {B : Nat} {w w' : World} {v : Value} {l : List Pen} (h : OwnP B w v l) (hb : Below w.heap.size w w') : OwnP B w' v l := h.same fun k hk => hb.block k (h.lt k hk).2
theorem OwnP.keep {S : Nat → Prop} {B : Nat} {w w' : World} {v : Value} {l : List Pen} (h : OwnP B w v l) (k : Keep S w w') (hS : ∀ k, v.ownBlock = some k → ¬ S k) : OwnP B w' v l := h.same fun i hi => k.block i (h.lt i hi).2 (hS i hi)
theorem run_appP (w : World) (B : Nat) (v : Value) (l : List Pen) (s : Pen) (hown : OwnP B w v l) (hsz : (l.length + 1) * 56 ≤ 140737488355328) (hB : B ≤ w.heap.size) :
    ∃ v' w1 w', (Instr.buildSlice 141 1 #[(0, .agg (tabv s.v 35))]).run Tryz.prog w = .ok (.slice (some ⟨w.heap.size, 0, none⟩) 1 1) w1 ∧ (Builtin.append_ #[141, 141] 141 #[v, .slice (some ⟨w.heap.size, 0, none⟩) 1 1]).run Tryz.prog w1 = .ok v' w' ∧ OwnP B w' v' (l ++ [s]) ∧ (∀ g, g < w.heap.size → v.ownBlock ≠ some g → w'.heap[g]? = w.heap[g]?) ∧ Below B w w' := by
  obtain ⟨i, h1, h2, h3, h4⟩ := infoPP
  have hb : Has (w.alloc (.cells (tabv s.v 35) 186)) w.heap.size 186 s.v 35 := Has.new w 186 s.v 35 _ rfl
  have ho : OwnP B (w.alloc (.cells (tabv s.v 35) 186)) v l := World.ownsRow.alloc hown _
  obtain ⟨v', w', e1, e2, e3, _⟩ := run_append_own (P := Tryz.prog) (w.alloc (.cells (tabv s.v 35) 186)) B 141 141 186 i _ 35 56 Tryz.underlying141 h1 h2 h3 h4 (by rfl) (by omega) v l.length (cellsP l) ho ⟨w.heap.size, 0, none⟩ 1 1 (cellsP [s]) (by rw [cellsP_length]; rfl)
    (fun j u hj => by
      have hj' : j < 35 := by have := (List.getElem?_eq_some_iff.1 hj).1; rw [cellsP_length] at this; simpa using this
      have hadd : (⟨w.heap.size, 0, none⟩ : Addr).add j = ⟨w.heap.size, j, none⟩ := by unfold Addr.add; split <;> simp_all
      rw [hadd, hb.cell j hj', ← hj, cellsP_one]
      unfold Pen.enc
      rw [Array.getElem?_toList, tabv_get _ _ _ hj'])
    (by rw [cellsP_one]; exact s.one) (by unfold maxLen; omega) hsz (by rw [size_alloc]; omega)
  obtain ⟨g1, g2⟩ := grown_all e3 (fun k hk => (hown.lt k hk).1) hB
  refine ⟨v', _, w', run_sliceP w s, e1, ?_, g1, g2⟩
  unfold OwnP
  rw [List.length_append, cellsP_append]
  exact e2
set_option maxRecDepth 100000 in
theorem builtPen (o : Bool) (s : Upd) : Tryz.prog.built 186 [(0, .bool o), (1, .int .i64 s.id), (2, .int .i64 s.amt), (3, .agg (tabv (bv s.hash) 32))] = some (tabv (penOf o s).v 35) := by kernel_rfl
theorem OwnP.ne_map {B : Nat} {w : World} {v : Value} {l : List Pen} {b n : Nat} {f : Int → Int} (h : OwnP B w v l) (m : RMap w b n f) : ∀ k, v.ownBlock = some k → k ≠ b := by
  rintro k hk rfl
  obtain ⟨_, ⟨rfl, _⟩ | ⟨g, cap, cur, rfl, _, hg, _⟩⟩ := h
  · simp [Value.ownBlock] at hk
  · have : g = k := by simpa [Value.ownBlock] using hk
    subst this
    obtain ⟨D, ⟨es, clock, hm, _⟩, _⟩ := m
    rw [hg] at hm; cases hm
theorem Keep.then_ {S : Nat → Prop} {w w1 w2 : World} (h : Keep S w w1) (k : Below w.heap.size w1 w2) : Keep S w w2 :=
  ⟨k.os.trans h.os, k.tape.trans h.tape, k.output.trans h.output, Nat.le_trans h.size k.size, fun i hi hn => (k.block i hi).trans (h.block i hi hn)⟩
def SD (g1 g2 : Nat) (k : Nat) : Prop := k = g1 ∨ k = g2
def BX (X : Int) : Prop := -(1960000000000 * 1152921504606846976) ≤ X ∧ X ≤ 1960000000000 * 1152921504606846976
set_option maxRecDepth 100000 in
set_option maxHeartbeats 4000000 in
theorem settle_any (g1 g2 : Nat) (X Y : Int) (a1 a2 : Option Addr) (n1 c1 n2 c2 : Nat) (mine others : List Upd) (hn1 : mine.length = n1) (hn2 : others.length = n2) (z1 : n1 ≤ 1955000000000) (z2 : n2 ≤ 1955000000000) (ours : Bool) (w : World) (hS1 : Upds w a1 mine) (hS2 : Upds w a2 others) (hA1 : mine = [] ∨ ∀ x, a1 = some x → x.block ≠ g1 ∧ x.block ≠ g2) (hT : Tot w g1 X) (hU : Tot w g2 Y) (hne : g1 ≠ g2) (bX : BX X) (bY : BX Y) :
    Calls Tryz.prog 144 #[.pointer (some ⟨g1, 0, none⟩), .pointer (some ⟨g2, 0, none⟩), .slice a1 n1 c1, .slice a2 n2 c2, .bool ours] w fun e w' => ∃ v, e = .returned v ∧ Tot w' g1 (X - sumIf (lostB others) mine) ∧ Tot w' g2 (Y + sumIf (wonB others) mine) ∧ OwnP w.heap.size w' v (sortP (opensL ours others mine)) ∧ Keep (SD g1 g2) w w' := by
  have N1 := hide hn1
  have hni1 : (n1 : Int) ≤ 140737488351232 := by omega
  have rmP := removals_any a2 n2 c2 others hn2 (by omega) w hS2
  have RP := hide rmP
  have hl1 := hT.lt
  have hl2 := hU.lt
  have HZ := hide z1
  have BB : Hid (BX X ∧ BX Y) := ⟨bX, bY⟩
  clear rmP hn1 hn2 z1 z2 bX bY
  go_enter Tryz.func144, Tryz.ntmps144
  go_wp2_with fail
  refine RP.out.mono ?_
  rintro e w2 ⟨b1, m1, rfl, hR, hbb1, hm1, gb⟩
  clear RP
  have hT2 := hT.below gb
  have hU2 := hU.below gb
  have hS1' := hS1.below gb
  have kp : Keep (SD g1 g2) w w2 := Keep.all gb
  obtain ⟨f1, hf1⟩ : ∃ f, remK others = f := ⟨_, rfl⟩
  rw [hf1] at hR
  have HF1 := hide (fun x => congrFun hf1 x)
  have hnb1 : ¬ (b1 = g1) := by omega
  have hnb2 : ¬ (b1 = g2) := by omega
  have hO0 : OwnP w.heap.size w2 (.slice none 0 0) [] := OwnP.nil _ _
  clear hf1
  go_wp2
  go_loopw [19, 12] (fun i vO wr => ∃ (j : Nat) (vO' : Value), j ≤ n1 ∧ i = .int .i64 (j : Int) ∧ vO = vO' ∧ Tot wr g1 (X - sumIf (lostB others) (mine.take j)) ∧ Tot wr g2 (Y + sumIf (wonB others) (mine.take j)) ∧ RMap wr b1 m1 f1 ∧ OwnP w.heap.size wr vO' (opensL ours others (mine.take j)) ∧ Keep (SD g1 g2) w wr) (fun i _ _ => n1 - (intOf i).toNat)
  case atStart => exact ⟨0, .slice none 0 0, Nat.zero_le _, rfl, rfl, by simpa [sumIf] using hT2, by simpa [sumIf] using hU2, hR, hO0, kp⟩
  case round =>
    clear hT2 hU2 hR hO0 kp
    obtain ⟨j, vO, hj, rfl, hvv, hT2, hU2, hR, hO, kp⟩ := hrel
    obtain rfl := hvv.symm
    clear hvv
    have hS1r : Upds wr a1 mine := by
      rcases hA1 with h | hA1
      · exact .inl h
      rcases hS1 with h | ⟨b, o, h1, h2, h3⟩
      · exact .inl h
      · refine .inr ⟨b, o, h1, Nat.lt_of_lt_of_le h2 kp.size, fun i s hs q hq => ?_⟩
        have hnb := hA1 _ h1
        have e := kp.block b h2 (fun h => by rcases h with h | h; exact hnb.1 h; exact hnb.2 h)
        have := h3 i s hs q hq
        simp only [World.cell?] at this ⊢
        rw [e]; exact this
    by_cases hlt : j < n1
    · have hd : decide ((j : Int) < (n1 : Int)) = true := decide_eq_true (by omega)
      have hd2 : decide (j < n1) = true := decide_eq_true hlt
      have hk0 : (0 : Int) ≤ (j : Int) := by omega
      have hk1 : (j : Int) < (n1 : Int) := by omega
      obtain ⟨s, hs⟩ : ∃ s, mine[j]? = some s := ⟨_, List.getElem?_eq_getElem (by rw [N1.out]; exact hlt)⟩
      obtain ⟨b, o, rfl, hb1, hA⟩ := hS1r.get j s hs
      have HS := hide hs
      have HA := hide hA
      obtain ⟨w6, w7, hW6, q1, hW7, r1, rb⟩ := newU wr s
      have Q1 := hide q1
      have R7 := hide r1
      have c0 : w7.cell? ⟨wr.heap.size, 0, none⟩ = some (.int .i64 s.kind) := r1.cell 0 (by omega)
      have c1 : w7.cell? ⟨wr.heap.size, 1, none⟩ = some (.int .i64 s.id) := r1.cell 1 (by omega)
      have c2 : w7.cell? ⟨wr.heap.size, 2, none⟩ = some (.int .i64 s.amt) := r1.cell 2 (by omega)
      clear hs hA hb1 q1 r1
      have hT7 := hT2.below rb
      have hU7 := hU2.below rb
      have hR7 := hR.below rb
      have hO7 := hO.below rb
      have kp7 := kp.trans (Keep.all rb)
      have hge7 := kp7.size
      have hgew := kp.size
      have NL := hide (sumIf_next (p := lostB others) HS.out)
      have NW := hide (sumIf_next (p := wonB others) HS.out)
      have NO := hide (opens_next (o := ours) (b := others) HS.out)
      obtain ⟨Xj, hXj⟩ : ∃ x, X - sumIf (lostB others) (mine.take j) = x := ⟨_, rfl⟩
      obtain ⟨Yj, hYj⟩ : ∃ x, Y + sumIf (wonB others) (mine.take j) = x := ⟨_, rfl⟩
      obtain ⟨lO, hlO⟩ : ∃ x, opensL ours others (mine.take j) = x := ⟨_, rfl⟩
      have BXj : Hid (Bd Xj) := by
        have e1 := sumIf_bd (lost_add others) (mine.take j)
        have e2 := List.length_take_le j mine
        have e3 := N1.out
        have e4 := HZ.out
        have e5 := BB.out.1
        unfold BX at e5
        rw [← hXj]; unfold Hid Bd; omega
      have BYj : Hid (Bd Yj) := by
        have e1 := sumIf_bd (won_add others) (mine.take j)
        have e2 := List.length_take_le j mine
        have e3 := N1.out
        have e4 := HZ.out
        have e5 := BB.out.2
        unfold BX at e5
        rw [← hYj]; unfold Hid Bd; omega
      have LO : Hid ((lO.length + 1) * 56 ≤ 140737488355328) := by
        have e1 := opens_len ours others (mine.take j)
        have e2 := List.length_take_le j mine
        have e3 := N1.out
        have e4 := HZ.out
        rw [hlO] at e1
        show _ ≤ _; omega
      rw [hXj] at hT7
      rw [hYj] at hU7
      rw [hlO] at hO7
      have EX := hide hXj
      have EY := hide hYj
      have EO := hide hlO
      have hvo1 : ∀ k, vO.ownBlock = some k → ¬ (k = g1) := fun k hk e => by have := (hO.lt k hk).1; omega
      have hvo2 : ∀ k, vO.ownBlock = some k → ¬ (k = g2) := fun k hk e => by have := (hO.lt k hk).1; omega
      have hne' : ¬ (g2 = g1) := fun e => hne e.symm
      have hgU1 : ¬ (wr.heap.size = g1) := by omega
      generalize hgU : wr.heap.size = gU at Q1 R7 c0 c1 c2 hW7 hgU1
      clear rb hR hT2 hU2 hO kp c0 hXj hYj hlO
      cases ha : addB s with
      | false =>
        have hC : Calls Tryz.prog 96 #[.agg (tabv s.v 36)] w7 fun e w' => e = .returned (.bool false) ∧ Below w7.heap.size w7 w' := by have := isAdd_any s w7; rw [ha] at this; exact this
        have HC := hide hC
        clear hC
        go_wp2_with (first | refine wpW_load_at 34 _ rfl (b) (o + j * 36) (by rfl) (by rfl) _ 36 _ (HA.out) Tryz.underlying34 rfl infoU ?_ | refine wpList_storeU rfl _ _ rfl rfl (gU) (s) rfl rfl _ Q1.out ?_ | refine wpW_load_at 34 _ rfl (gU) (0) (by rfl) (by rfl) _ 36 _ (by first | exact R7.out.at_ 0 (by omega) (fun i hi => by rw [Nat.zero_add]) | (rw [hW7]; exact R7.out.at_ 0 (by omega) (fun i hi => by rw [Nat.zero_add]))) Tryz.underlying34 rfl infoU ?_ | (go_at_call 96; go_must (refine HC.out.mono ?_); rintro e w8 ⟨rfl, hb8⟩; have d1 := (hb8.cell (p := ⟨gU, 1, none⟩) R7.out.lt).trans c1; have d2 := (hb8.cell (p := ⟨gU, 2, none⟩) R7.out.lt).trans c2; have hT8 := hT7.below hb8; have hU8 := hU7.below hb8; have hR8 := hR7.below hb8; have hO8 := hO7.below hb8; have R8 := hide (R7.out.below hb8 R7.out.lt)))
        go_roundw
        case rel =>
          refine ⟨j + 1, vO, by omega, by go_num, rfl, ?_, ?_, hR8, ?_, kp7.then_ (hb8.mono hge7)⟩
          · rw [NL.out, (if_neg (by unfold lostB; rw [ha]; simp))]; have e := EX.out; rw [show X - (sumIf (lostB others) (mine.take j) + 0) = Xj by omega]; exact hT8
          · rw [NW.out, (if_neg (by unfold wonB; rw [ha]; simp))]; have e := EY.out; rw [show Y + (sumIf (wonB others) (mine.take j) + 0) = Yj by omega]; exact hU8
          · rw [NO.out, (if_neg (by unfold openB; rw [ha]; simp)), EO.out, List.append_nil]; exact hO8
        case measure => simp [intOf]; omega
      | true =>
        have hC : Calls Tryz.prog 96 #[.agg (tabv s.v 36)] w7 fun e w' => e = .returned (.bool true) ∧ Below w7.heap.size w7 w' := by have := isAdd_any s w7; rw [ha] at this; exact this
        have HC := hide hC
        have HI0 := hide (add_id ha).1
        have HI1 := hide (add_id ha).2
        have HA0 := hide (add_amt ha).1
        have HA1 := hide (add_amt ha).2
        clear hC
        have hfs : f1 s.id = 0 ∨ f1 s.id = 2 ∨ f1 s.id = 3 := by rw [← HF1.out]; exact remK_of
        rcases hfs with hf | hf | hf
        · have q3 : (f1 s.id == 3) = false := by rw [hf]; rfl
          have q2 : (f1 s.id == 2) = false := by rw [hf]; rfl
          have HFf := hide hf
          clear hf
          go_wp2_with (first | refine wpW_load_at 34 _ rfl (b) (o + j * 36) (by rfl) (by rfl) _ 36 _ (HA.out) Tryz.underlying34 rfl infoU ?_ | refine wpList_storeU rfl _ _ rfl rfl (gU) (s) rfl rfl _ Q1.out ?_ | refine wpW_load_at 34 _ rfl (gU) (0) (by rfl) (by rfl) _ 36 _ (by first | exact R7.out.at_ 0 (by omega) (fun i hi => by rw [Nat.zero_add]) | (rw [hW7]; exact R7.out.at_ 0 (by omega) (fun i hi => by rw [Nat.zero_add]))) Tryz.underlying34 rfl infoU ?_ | (go_at_call 96; go_must (refine HC.out.mono ?_); rintro e w8 ⟨rfl, hb8⟩; have d1 := (hb8.cell (p := ⟨gU, 1, none⟩) R7.out.lt).trans c1; have d2 := (hb8.cell (p := ⟨gU, 2, none⟩) R7.out.lt).trans c2; have hT8 := hT7.below hb8; have hU8 := hU7.below hb8; have hR8 := hR7.below hb8; have hO8 := hO7.below hb8; have R8 := hide (R7.out.below hb8 R7.out.lt); have hL := hR8.look HI0.out HI1.out; have hge8 := Nat.le_trans hge7 hb8.size) | (go_at_call 97; go_must (refine (tminus_any g1 Xj s.amt w8 hT8 (by have := HA0.out; omega) HA1.out BXj.out).mono ?_); rintro e w9 ⟨rfl, hT9, hk9⟩; have f1' := R8.out.keep hk9 hgU1; have e1 : w9.cell? ⟨gU, 1, none⟩ = some (.int .i64 s.id) := f1'.cell 1 (by omega); have e2 : w9.cell? ⟨gU, 2, none⟩ = some (.int .i64 s.amt) := f1'.cell 2 (by omega); have hU9 := hU8.keep hk9 hne'; have hR9 := hR8.keep hk9 hnb1; have hL9 := hR9.look HI0.out HI1.out; have hO9 := hO8.keep hk9 hvo1; have F9 := hide f1'; clear f1'; obtain ⟨vN, wS, wN, ap1, ap2, hON, hKN, hBN⟩ := run_appP w9 w.heap.size vO lO (penOf ours s) hO9 (by have := LO.out; omega) (Nat.le_trans hge8 hk9.size); have AP1 := hide ap1; have AP2 := hide ap2; clear ap1 ap2) | refine wpW_load_at 23 _ rfl gU 3 (by rfl) (by rfl) _ 32 _ F9.out.at_hash Tryz.underlying23 rfl info26 ?_ | refine wpW_build (by rfl) 186 #[(0, .tmp 47), (1, .tmp 49), (2, .tmp 51), (3, .tmp 53)] rfl [(0, .bool ours), (1, .int .i64 s.id), (2, .int .i64 s.amt), (3, .agg (tabv (bv s.hash) 32))] (by simp [Act.eval, Act.put]) _ (builtPen ours s) ?_ | refine wpList_slice1 rfl 141 (.tmp 54) rfl (.agg (tabv (penOf ours s).v 35)) (by rfl) AP1.out ?_ | refine wpList_app rfl (.tmp 46) (.tmp 55) _ rfl AP2.out ?_)
          have hf := HFf.out
          have hnm := hO9.ne_map hR9
          have hg1n : wN.heap[g1]? = w9.heap[g1]? := hKN g1 hT9.lt (fun e => hvo1 g1 e rfl)
          have hg2n : wN.heap[g2]? = w9.heap[g2]? := hKN g2 hU9.lt (fun e => hvo2 g2 e rfl)
          have hb1n : wN.heap[b1]? = w9.heap[b1]? := hKN b1 hR9.lt (fun e => hnm b1 e rfl)
          go_roundw
          case rel =>
            refine ⟨j + 1, vN, by omega, by go_num, rfl, ?_, ?_, hR9.same hb1n, ?_, ((kp7.then_ (hb8.mono hge7)).transR hk9 (fun k _ e => .inl e)).then_ hBN⟩
            · rw [NL.out, (if_pos (by unfold lostB; rw [ha, HF1.out, hf]; rfl))]; have e := EX.out; rw [show X - (sumIf (lostB others) (mine.take j) + s.amt) = Xj - s.amt by omega]; exact Has.same hT9 hg1n
            · rw [NW.out, (if_neg (by unfold wonB; rw [ha, HF1.out, hf]; simp))]; have e := EY.out; rw [show Y + (sumIf (wonB others) (mine.take j) + 0) = Yj by omega]; exact Has.same hU9 hg2n
            · rw [NO.out, (if_pos (by unfold openB; rw [ha, HF1.out, hf]; rfl)), EO.out]; exact hON
          case measure => simp [intOf]; omega
        · have q3 : (f1 s.id == 3) = false := by rw [hf]; rfl
          have q2 : (f1 s.id == 2) = true := by rw [hf]; rfl
          have HFf := hide hf
          clear hf
          go_wp2_with (first | refine wpW_load_at 34 _ rfl (b) (o + j * 36) (by rfl) (by rfl) _ 36 _ (HA.out) Tryz.underlying34 rfl infoU ?_ | refine wpList_storeU rfl _ _ rfl rfl (gU) (s) rfl rfl _ Q1.out ?_ | refine wpW_load_at 34 _ rfl (gU) (0) (by rfl) (by rfl) _ 36 _ (by first | exact R7.out.at_ 0 (by omega) (fun i hi => by rw [Nat.zero_add]) | (rw [hW7]; exact R7.out.at_ 0 (by omega) (fun i hi => by rw [Nat.zero_add]))) Tryz.underlying34 rfl infoU ?_ | (go_at_call 96; go_must (refine HC.out.mono ?_); rintro e w8 ⟨rfl, hb8⟩; have d1 := (hb8.cell (p := ⟨gU, 1, none⟩) R7.out.lt).trans c1; have d2 := (hb8.cell (p := ⟨gU, 2, none⟩) R7.out.lt).trans c2; have hT8 := hT7.below hb8; have hU8 := hU7.below hb8; have hR8 := hR7.below hb8; have hO8 := hO7.below hb8; have R8 := hide (R7.out.below hb8 R7.out.lt); have hL := hR8.look HI0.out HI1.out; have hge8 := Nat.le_trans hge7 hb8.size) | (go_at_call 97; go_must (refine (tminus_any g1 Xj s.amt w8 hT8 (by have := HA0.out; omega) HA1.out BXj.out).mono ?_); rintro e w9 ⟨rfl, hT9, hk9⟩; have f1' := R8.out.keep hk9 hgU1; have e1 : w9.cell? ⟨gU, 1, none⟩ = some (.int .i64 s.id) := f1'.cell 1 (by omega); have e2 : w9.cell? ⟨gU, 2, none⟩ = some (.int .i64 s.amt) := f1'.cell 2 (by omega); have hU9 := hU8.keep hk9 hne'; have hR9 := hR8.keep hk9 hnb1; have hL9 := hR9.look HI0.out HI1.out; have hO9 := hO8.keep hk9 hvo1; have F9 := hide f1'; clear f1') | (go_at_call 95; go_must (refine (tplus_any g2 Yj s.amt w9 hU9 (by have := HA0.out; omega) HA1.out BYj.out).mono ?_); rintro e wA ⟨rfl, hUA, hkA⟩))
          have hf := HFf.out
          have hne1 : ¬ (g1 = g2) := hne
          go_roundw
          case rel =>
            refine ⟨j + 1, vO, by omega, by go_num, rfl, ?_, ?_, hR9.keep hkA hnb2, ?_, ((kp7.then_ (hb8.mono hge7)).transR hk9 (fun k _ e => .inl e)).transR hkA (fun k _ e => .inr e)⟩
            · rw [NL.out, (if_pos (by unfold lostB; rw [ha, HF1.out, hf]; rfl))]; have e := EX.out; rw [show X - (sumIf (lostB others) (mine.take j) + s.amt) = Xj - s.amt by omega]; exact hT9.keep hkA hne1
            · rw [NW.out, (if_pos (by unfold wonB; rw [ha, HF1.out, hf]; rfl))]; have e := EY.out; rw [show Y + (sumIf (wonB others) (mine.take j) + s.amt) = Yj + s.amt by omega]; exact hUA
            · rw [NO.out, (if_neg (by unfold openB; rw [ha, HF1.out, hf]; simp)), EO.out, List.append_nil]; exact hO9.keep hkA hvo2
          case measure => simp [intOf]; omega
        · have q3 : (f1 s.id == 3) = true := by rw [hf]; rfl
          have HFf := hide hf
          clear hf
          go_wp2_with (first | refine wpW_load_at 34 _ rfl (b) (o + j * 36) (by rfl) (by rfl) _ 36 _ (HA.out) Tryz.underlying34 rfl infoU ?_ | refine wpList_storeU rfl _ _ rfl rfl (gU) (s) rfl rfl _ Q1.out ?_ | refine wpW_load_at 34 _ rfl (gU) (0) (by rfl) (by rfl) _ 36 _ (by first | exact R7.out.at_ 0 (by omega) (fun i hi => by rw [Nat.zero_add]) | (rw [hW7]; exact R7.out.at_ 0 (by omega) (fun i hi => by rw [Nat.zero_add]))) Tryz.underlying34 rfl infoU ?_ | (go_at_call 96; go_must (refine HC.out.mono ?_); rintro e w8 ⟨rfl, hb8⟩; have d1 := (hb8.cell (p := ⟨gU, 1, none⟩) R7.out.lt).trans c1; have d2 := (hb8.cell (p := ⟨gU, 2, none⟩) R7.out.lt).trans c2; have hT8 := hT7.below hb8; have hU8 := hU7.below hb8; have hR8 := hR7.below hb8; have hO8 := hO7.below hb8; have R8 := hide (R7.out.below hb8 R7.out.lt); have hL := hR8.look HI0.out HI1.out))
          have hf := HFf.out
          go_roundw
          case rel =>
            refine ⟨j + 1, vO, by omega, by go_num, rfl, ?_, ?_, hR8, ?_, kp7.then_ (hb8.mono hge7)⟩
            · rw [NL.out, (if_neg (by unfold lostB; rw [ha, HF1.out, hf]; simp))]; have e := EX.out; rw [show X - (sumIf (lostB others) (mine.take j) + 0) = Xj by omega]; exact hT8
            · rw [NW.out, (if_neg (by unfold wonB; rw [ha, HF1.out, hf]; simp))]; have e := EY.out; rw [show Y + (sumIf (wonB others) (mine.take j) + 0) = Yj by omega]; exact hU8
            · rw [NO.out, (if_neg (by unfold openB; rw [ha, HF1.out, hf]; simp)), EO.out, List.append_nil]; exact hO8
          case measure => simp [intOf]; omega
    · have hjn : n1 = j := by omega
      subst hjn
      have hd : decide ((n1 : Int) < (n1 : Int)) = false := decide_eq_false (by omega)
      have hd2 : decide (n1 < n1) = false := decide_eq_false (by omega)
      rw [show mine.take n1 = mine by rw [← N1.out, List.take_length]] at hT2 hU2 hO
      have C := sort_any w.heap.size wr vO (opensL ours others mine) hO (by have := opens_len ours others mine; have := N1.out; have := HZ.out; omega)
      have HC := hide C
      unfold byID at HC
      have hvo1 : ∀ k, vO.ownBlock = some k → w.heap.size ≤ k := fun k hk => (hO.lt k hk).1
      clear C
      go_wp2_with fail
      refine HC.out.mono ?_
      rintro e wz ⟨rfl, hOz, hGz⟩
      have kz : Below w.heap.size wr wz := ⟨hGz.os, hGz.tape, hGz.output, hGz.size, fun k hk => hGz.block k (Nat.lt_of_lt_of_le hk kp.size) (fun e => by have := hvo1 k e.symm; omega)⟩
      have t1 : wz.heap[g1]? = wr.heap[g1]? := kz.block g1 hl1
      have t2 : wz.heap[g2]? = wr.heap[g2]? := kz.block g2 hl2
      go_wp2
      go_ret
      exact ⟨vO, rfl, Has.same hT2 t1, Has.same hU2 t2, hOz, kp.then_ kz⟩
end Go.Proofs.YtmmcoedgoekhgaaGreatDoor
