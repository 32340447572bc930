import Derived.Test.YtjfbdnogkbhciaaGreatDoorFNext
import Derived.WalkMore
/-
  Lists of texts and of numbers: in memory, grown by one, held against one another.
-/
namespace Go.Proofs.YtjfbdnogkbhciaaGreatDoor.Fr
open Go.RowKit C
set_option linter.unusedVariables false
abbrev Key := List UInt8
def encStr (k : Key) : Value := .string ⟨k.toArray⟩
def encInt (k : Nat) : Value := .int .i64 (k : Int)
theorem lt_of_some {w : World} {b : Nat} {ob : Obj} (h : w.heap[b]? = some ob) : b < w.heap.size := by
  rcases Nat.lt_or_ge b w.heap.size with hl | hl
  · exact hl
  · rw [Array.getElem?_eq_none hl] at h; cases h
/-- A slice's elements, of one cell each. -/
def RowAt (w : World) (ad : Option Addr) (xs : List Value) : Prop := xs = [] ∨ ∃ b o, ad = some ⟨b, o, none⟩ ∧ b < w.heap.size ∧ ∀ i, i < xs.length → w.cell? ⟨b, o + i, none⟩ = xs[i]?
theorem RowAt.below {w w' : World} {ad : Option Addr} {xs : List Value} (h : RowAt w ad xs) (hb : Below w.heap.size w w') : RowAt w' ad xs := by
  rcases h with h | ⟨b, o, ha, hl, hc⟩
  · exact .inl h
  · exact .inr ⟨b, o, ha, Nat.lt_of_lt_of_le hl hb.size, fun i hi => by rw [← hc i hi]; exact World.cell?_of_block (hb.block b hl)⟩
theorem RowAt.take {w : World} {ad : Option Addr} {xs : List Value} (h : RowAt w ad xs) (k : Nat) : RowAt w ad (xs.take k) := by
  rcases h with h | ⟨b, o, ha, hl, hc⟩
  · exact .inl (by rw [h]; simp)
  · refine .inr ⟨b, o, ha, hl, fun i hi => ?_⟩
    rw [List.length_take] at hi
    rw [hc i (by omega), List.getElem?_take_of_lt (by omega)]
theorem own_at {w : World} {base e n : Nat} {v : Value} {xs : List Value} (h : w.ownsRow base e 1 v n xs) : ∃ ad cap, v = .slice ad n cap ∧ RowAt w ad xs ∧ n ≤ cap ∧ cap ≤ maxLen ∧ (∀ b o, ad = some ⟨b, o, none⟩ → base ≤ b) := by
  obtain ⟨hl, ⟨rfl, rfl⟩ | ⟨g, cap, cur, rfl, hb, hg, hnc, hcm, hcs, htake⟩⟩ := h
  · rw [Nat.zero_mul] at hl
    exact ⟨none, 0, rfl, .inl (List.length_eq_zero_iff.1 hl), Nat.le_refl _, Nat.zero_le _, fun b o hx => by cases hx⟩
  · refine ⟨some ⟨g, 0, none⟩, cap, rfl, ?_, hnc, hcm, fun b o hx => by cases hx; exact hb⟩
    refine .inr ⟨g, 0, rfl, lt_of_some hg, fun i hi => ?_⟩
    rw [Nat.zero_add, cell_of_row w g i _ _ (0, 0) hg, ← htake, List.getElem?_take, if_pos (by omega)]
    rw [Array.getElem?_toList]
theorem row_same {w w' : World} {base e size n : Nat} {v : Value} {xs : List Value} (h : w.ownsRow base e size v n xs) (he : ∀ b, v.ownBlock = some b → w'.heap[b]? = w.heap[b]?) : w'.ownsRow base e size v n xs := by
  refine ⟨h.1, ?_⟩
  rcases h.2 with hn | ⟨g, cap, cur, rfl, hb, hg, rest⟩
  · exact .inl hn
  · exact .inr ⟨g, cap, cur, rfl, hb, by rw [he g rfl]; exact hg, rest⟩
theorem row_below {w w' : World} {base e size n : Nat} {v : Value} {xs : List Value} (h : w.ownsRow base e size v n xs) (hb : Below w.heap.size w w') : w'.ownsRow base e size v n xs := row_same h (fun b hx => hb.block b (World.ownsRow.lt h b hx).2)
/-- Another row stands, where one was grown. -/
theorem row_apart {w w' : World} {base e size n : Nat} {v u u' : Value} {xs : List Value} (h : w.ownsRow base e size v n xs) (hM : Mv w u w' u') (ha : ∀ b, v.ownBlock = some b → u.ownBlock ≠ some b) : w'.ownsRow base e size v n xs :=
  row_same h (fun b hx => hM.gr.block b (World.ownsRow.lt h b hx).2 (fun e => ha b hx e.symm))
theorem Mv.below {B : Nat} {w w' : World} {v v' : Value} (h : Mv w v w' v') (hv : ∀ k, v.ownBlock = some k → B ≤ k) (hB : B ≤ w.heap.size) : Below B w w' := grown_below h.gr (fun k hk => hv k hk) hB
theorem info9 : (Tryz.prog.info? 9).map (fun i => (i.zero, i.size, i.bytes)) = some (some (.string { data := #[] }), 1, 16) := by kernel_rfl
theorem info3 : (Tryz.prog.info? 3).map (fun i => (i.zero, i.size, i.bytes)) = some (some (.int .i64 0), 1, 8) := by kernel_rfl
/-- append(v, x), one element of one cell, in a region that draws no order. -/
theorem wpList_append_one {ops : Array Oper} {rest : List Oper} {o : Oper} {a : Act} {w w0 : World} {Q : Exit → Act → World → Prop} (hgd : o.guard = none) (s x : Operand) (t e : TypeId) (z : Value) (by_ : Nat)
    (ho : o.op = .call { callee := .builtin .append, args := #[s, x], argTypes := #[t, t] }) (ht : Tryz.prog.underlying t = some (.slice e)) (hinf : (Tryz.prog.info? e).map (fun i => (i.zero, i.size, i.bytes)) = some (some z, 1, by_)) (hzc : z.cells.size = 1)
    (B : Nat) (v : Value) (n : Nat) (l : List Value) (X : Value) (hX1 : X.oneCell' = true) (hs : a.eval s = v) (hown : w0.ownsRow B e 1 v n l)
    (hx : a.eval x = .slice (some ⟨w0.heap.size, 0, none⟩) 1 1) (hw : w = w0.alloc (.cells #[X] e)) (hlen : (n + 1) * by_ ≤ 140737488355328) (hb1 : 1 ≤ by_) (hB : B ≤ w0.heap.size)
    (h : ∀ g cap w', w'.ownsRow B e 1 (.slice (some ⟨g, 0, none⟩) (n + 1) cap) (n + 1) (l ++ [X]) → Mv w0 v w' (.slice (some ⟨g, 0, none⟩) (n + 1) cap) → wpList Tryz.prog ops Q rest (a.put o.dst (.slice (some ⟨g, 0, none⟩) (n + 1) cap)) w') : wpList Tryz.prog ops Q (o :: rest) a w := by
  subst hw
  have hmx : n + 1 ≤ 140737488355328 := Nat.le_trans (Nat.le_mul_of_pos_right _ hb1) hlen
  obtain ⟨i, hi, hz0, hz1, hz2⟩ := info_parts hinf
  have hown' : (w0.alloc (.cells #[X] e)).ownsRow B e 1 v n l := World.ownsRow.kept hown (grown_alloc w0 _ none) (by cases v.ownBlock <;> simp)
  refine wpList_append_lies (P := Tryz.prog) _ hgd s x t ho B e i z 1 by_ ht hi hz0 hz1 hz2 hzc (by omega) v n l hs hown' ⟨w0.heap.size, 0, none⟩ 1 1 [X] hx rfl ?_ ?_ (by omega) (by unfold maxLen; omega) hlen (by simp; omega) _ rfl ?_
  · intro j u hu
    exact World.news_of_block (heap_alloc_new w0 _) j u hu
  · intro u hu
    simp at hu; subst hu; exact hX1
  · intro g cap w' h1 h2 h3 h4
    refine h g cap w' h1 ⟨grown_trans (grown_alloc w0 _ v.ownBlock) h2, fun g' hg' => ?_⟩
    have e : g' = g := by simpa [Value.ownBlock] using hg'.symm
    subst e
    rcases h3 with h3 | h3
    · exact .inl h3
    · exact .inr (by simp at h3; omega)
theorem drewN_below {B : Nat} {w w1 : World} (h : Below B w w1) (n : Nat) : Below B w (w1.drewN n) := ⟨h.os, h.tape, h.output, h.size, h.block⟩
theorem take_eq_succ {α : Type} {a b : List α} {k : Nat} (h : a.take k = b.take k) (ha : k < a.length) (hb : k < b.length) (hx : a[k] = b[k]) : a.take (k + 1) = b.take (k + 1) := by
  rw [List.take_succ_eq_append_getElem ha, List.take_succ_eq_append_getElem hb, h, hx]
-- left out in this seat: same_any
end Go.Proofs.YtjfbdnogkbhciaaGreatDoor.Fr
/-
  The program's Scan.
-/
namespace Go.Proofs.YtjfbdnogkbhciaaGreatDoor.Fr
open Go.RowKit C
set_option linter.unusedVariables false
/-- The number that the loop has behind so many frames. -/
def numAt (n : Int) (k : Nat) : Int := if n + k < 9223372036854775808 then n + k else -9223372036854775808
theorem numAt_zero (n : Int) (h : n < 9223372036854775808) : numAt n 0 = n := by unfold numAt; rw [if_pos (by simpa using h)]; simp
theorem numAt_whole (n : Int) (k : Nat) (t : List UInt8) : wholeT t (numAt n k) = wholeT t (n + k) := by
  unfold numAt
  split
  · rfl
  · rw [none_neg (by decide), none_big (by omega)]
theorem numAt_lt (n : Int) (k : Nat) : numAt n k < 9223372036854775808 := by unfold numAt; split <;> omega
/-- What Scan finds. -/
structure Found (l : List UInt8) (n : Int) (ps : List Key) (t' : List UInt8) : Prop where
  told : Told l n ps t'
  none : wholeT t' (n + ps.length) = none
set_option maxHeartbeats 2000000 in
theorem scan_few (b : ByteArray) (n : Int) (w : World) (hn : n < 9223372036854775808) (hbs : b.size ≤ 4611686018427387904) (few : ∀ ps t', Told b.data.toList n ps t' → ps.length * 16 ≤ 140737488355328) :
    Calls Tryz.prog 106 #[.string b, .int .i64 n] w fun e w' => ∃ ad cap ps t', e = .returned (.tuple #[.slice ad ps.length cap, .int .i64 ((b.size - t'.length : Nat) : Int), .bool (!t'.isEmpty)]) ∧
      w'.ownsRow w.heap.size 9 1 (.slice ad ps.length cap) ps.length (ps.map encStr) ∧ Found b.data.toList n ps t' ∧ Below w.heap.size w w' := by
  have HN0 := hide hn
  have HBS := hide hbs
  have HFew := hide few
  clear hn hbs few
  go_enter Tryz.func106, Tryz.ntmps106
  go_wp2
  go_step3
  go_wp2
  go_step3
  go_wp2
  go_loopw [1, 7, 8, 9] (fun vn v vat vt wr => ∃ (ps : List Key) (t' : List UInt8), vt = .bool false ∧ vn = .int .i64 (numAt n ps.length) ∧ vat = .int .i64 ((b.size - t'.length : Nat) : Int) ∧ wr.ownsRow w.heap.size 9 1 v ps.length (ps.map encStr) ∧ Told b.data.toList n ps t' ∧ Below w.heap.size w wr) (fun _ _ vat _ _ => b.size - (intOf vat).toNat)
  case atStart =>
    refine ⟨[], b.data.toList, rfl, ?_, ?_, World.ownsRow_nil w _ 9 1, rfl, Below.refl _ _⟩
    · rw [List.length_nil, numAt_zero n HN0.out]
    · rw [str_len, Nat.sub_self]; rfl
  case round =>
    obtain ⟨ps, t', rfl, rfl, rfl, hown, htold, hbw⟩ := hrel
    obtain ⟨ad, cap, rfl, hrow, _, _, _⟩ := own_at hown
    have HO := hide hown
    have HT := hide htold
    have HB := hide hbw
    obtain ⟨hs1, hs2⟩ := htold.suffix
    rw [str_len] at hs1 hs2
    obtain ⟨K, hK⟩ : ∃ K : Nat, b.size - t'.length = K := ⟨_, rfl⟩
    have HK := hide hK
    obtain ⟨N, hN⟩ : ∃ N : Int, numAt n ps.length = N := ⟨_, rfl⟩
    have HN := hide hN
    have HNl : Hid (N < 9223372036854775808) := by show _ < _; rw [← hN]; exact numAt_lt _ _
    have HW : Hid (wholeT t' N = wholeT t' (n + ps.length)) := by show _ = _; rw [← hN]; exact numAt_whole _ _ _
    have HD : Hid (b.data.toList.drop K = t') := by show _ = _; rw [← hK]; exact hs1.symm
    rw [hK, hN]
    have HS2 := hide hs2
    clear hown htold hbw hs1 hs2 hrow hK hN
    go_wp2_with fail
    refine (next_any b (K : Int) N _ HNl.out).mono ?_
    rintro e w1 ⟨rfl, hb1⟩
    have hb1' := HB.out.trans (hb1.mono HB.out.size)
    have hrow1 := row_below HO.out hb1
    by_cases hE : t' = []
    · have e1 : nextA b.data.toList (K : Int) N = ([], 0, 0) := by
        unfold nextA
        have := HK.out
        rw [hE] at this
        rw [if_pos (by rw [str_len]; simp at this; omega)]
      rw [nx_of e1 nil8 rfl 0 rfl]
      go_wp2
      (try rw [Exit.noGoto_ret])
      go_ret3
      refine ⟨ad, cap, ps, t', ?_, hrow1, ⟨HT.out, by rw [← HW.out, hE]; exact none_empty _⟩, hb1'⟩
      rw [HK.out, hE]
      rfl
    · have hKb : K < b.size := by
        have := HS2.out
        have := HK.out
        have : 0 < t'.length := List.length_pos_iff.2 hE
        omega
      have e0 : nextA b.data.toList (K : Int) N = match wholeT t' N with
          | some p => (p, room p.length, 1)
          | none => ([], 0, 2) := by
        unfold nextA
        rw [if_neg (by rw [str_len]; omega), if_neg (by rw [str_len]; omega), Int.toNat_natCast, HD.out]
        rfl
      cases hw : wholeT t' N with
      | none =>
        rw [hw] at e0
        rw [nx_of e0 nil8 rfl 0 rfl]
        have HX : Hid (wholeT t' (n + ps.length) = none) := by show _ = _; rw [← HW.out]; exact hw
        have HY : Hid ((!t'.isEmpty) = true) := by
          show _ = _
          cases t' with
          | nil => exact absurd rfl hE
          | cons => rfl
        clear e0 hw hE hKb
        go_wp2
        (try rw [Exit.noGoto_ret])
        go_ret3
        refine ⟨ad, cap, ps, t', ?_, hrow1, ⟨HT.out, HX.out⟩, hb1'⟩
        rw [HK.out, HY.out]
        rfl
      | some p =>
        rw [hw] at e0
        obtain ⟨P, hP⟩ : ∃ P : ByteArray, P = ⟨p.toArray⟩ := ⟨_, rfl⟩
        obtain ⟨R, hR⟩ : ∃ R : Int, R = (room p.length : Int) := ⟨_, rfl⟩
        rw [nx_of e0 P hP R hR]
        have hwh : Whole (n + ps.length) t' p := wholeT_some.1 (by rw [← HW.out]; exact hw)
        have HWh := hide hwh
        have hlen := hwh.len
        have hrm := room_ge p.length
        have hKt := HK.out
        have hst := HS2.out
        have HR' : Hid (wrap64 ((K : Int) + R) = ((b.size - (t'.drop (room p.length)).length : Nat) : Int)) := by
          show _ = _
          have := HBS.out
          rw [hR, List.length_drop]
          unfold wrap64
          omega
        have HR1 : Hid ((K : Int) + R = ((b.size - (t'.drop (room p.length)).length : Nat) : Int)) := by
          show _ = _
          have := HBS.out
          rw [hR, List.length_drop]
          omega
        have HP := hide hP
        have HRR := hide hR
        have HMe : Hid (b.size - (b.size - (t'.drop (room p.length)).length) < b.size - K) := by
          show _ < _
          rw [List.length_drop]
          omega
        have hnr := Told.range (HT.out.snoc hwh) (by simp)
        have HNR := hide hnr
        have HLn : Hid ((ps.length + 1) * 16 ≤ 140737488355328) := by
          show _ ≤ _
          have := HFew.out _ _ (HT.out.snoc hwh)
          rwa [List.length_append, List.length_singleton] at this
        have HBw := hide (show w.heap.size ≤ w1.heap.size from hb1'.size)
        have hne : numAt n (ps.length + 1) = wrap64 (N + 1) := by
          rw [List.length_append, List.length_singleton] at hnr
          rw [← HN.out]
          unfold numAt wrap64
          split <;> split <;> omega
        have HNE := hide hne
        clear e0 hw hE hKb hP hR hwh hlen hrm hKt hst hnr hne
        go_wp2_with (at_builtin; refine wpList_append_one rfl _ _ 34 9 _ 16 rfl Tryz.underlying34 info9 rfl w.heap.size _ ps.length (ps.map encStr) (.string P) rfl (by rfl) hrow1 (by rfl) rfl HLn.out (by decide) HBw.out ?_; intro g cap2 w2 hown2 hM2)
        go_roundw
        case rel =>
          refine ⟨ps ++ [p], t'.drop (room p.length), rfl, ?_, ?_, ?_, HT.out.snoc HWh.out, ?_⟩
          · rw [List.length_append, List.length_singleton, HNE.out]
          · rw [← HR'.out]
          · rw [List.length_append, List.length_singleton, List.map_append]
            have e : [p].map encStr = [.string P] := by rw [HP.out]; rfl
            rw [e]
            exact hown2
          · exact hb1'.trans (hM2.below (World.ownsRow.lt hrow1 · · |>.1) HBw.out)
        case measure =>
          rw [HR'.out]
          show b.size - (((b.size - (t'.drop (room p.length)).length : Nat) : Int)).toNat < b.size - ((K : Nat) : Int).toNat
          rw [Int.toNat_natCast, Int.toNat_natCast]
          exact HMe.out
theorem scan_any (b : ByteArray) (n : Int) (w : World) (hn : n < 9223372036854775808) (hbs : b.size ≤ 140737488355328) :
    Calls Tryz.prog 106 #[.string b, .int .i64 n] w fun e w' => ∃ ad cap ps t', e = .returned (.tuple #[.slice ad ps.length cap, .int .i64 ((b.size - t'.length : Nat) : Int), .bool (!t'.isEmpty)]) ∧
      w'.ownsRow w.heap.size 9 1 (.slice ad ps.length cap) ps.length (ps.map encStr) ∧ Found b.data.toList n ps t' ∧ Below w.heap.size w w' :=
  scan_few b n w hn (by omega) (fun ps t' h => by have := h.suffix.2; rw [str_len] at this; omega)
end Go.Proofs.YtjfbdnogkbhciaaGreatDoor.Fr
