import Derived.Test.YtepgoehpjafbhaaGreatDoorSWr
/-
  script's writer: words.
-/
namespace Go.Proofs.YtepgoehpjafbhaaGreatDoor
open Go.RowKit S
set_option linter.unusedVariables false
set_option linter.unusedSimpArgs false
def fitB (t : List UInt8) (n : Nat) (lg : Bool) : Bool := lg || decide (65536 < t.length + n)
set_option maxRecDepth 100000 in
theorem fits_any (b N : Nat) (v : Value) (t : List UInt8) (x : ByteArray) (lg : Bool) (w : World) (h : Wr w b N v t lg) (ht : t.length ≤ 65536) (hx : x.size ≤ 140737488355328) :
    Calls Tryz.prog 54 #[.pointer (some ⟨b, 0, none⟩), .string x] w fun e w' => e = .returned (.bool (!fitB t x.size lg)) ∧ Wr w' b N v t (fitB t x.size lg) ∧ Mw b w v w' v := by
  have hq := len_any b N v t lg w h
  obtain ⟨h1, h2, h3, p, h4, h5⟩ := h
  have c2 : w.cell? ⟨b, 2, none⟩ = some (.bool lg) := h5.cell 2 (by omega)
  have f2 := h5.frozen 2
  by_cases hg : 65536 < t.length + x.size
  · have hd : decide ((65536 : Int) < (t.length : Int) + (x.size : Int)) = true := decide_eq_true (by omega)
    have hf : fitB t x.size lg = true := by unfold fitB; rw [decide_eq_true hg, Bool.or_true]
    rw [hf]
    have hH : Has (w.setCell ⟨b, 2, none⟩ (.bool true)) b 89 (wtv p v true) 3 := (h5.set 2 _).congr _ fun i hi => by
      unfold upd wtv
      by_cases e : i = 2
      · subst e; rfl
      · rw [if_neg e]
        by_cases e0 : i = 0
        · rw [if_pos e0, if_pos e0]
        · by_cases e1 : i = 1
          · rw [if_neg e0, if_neg e0, if_pos e1, if_pos e1]
          · omega
    have c3 : (w.setCell ⟨b, 2, none⟩ (.bool true)).cell? ⟨b, 2, none⟩ = some (.bool true) := hH.cell 2 (by omega)
    have hW : Wr (w.setCell ⟨b, 2, none⟩ (.bool true)) b N v t true := ⟨h1, by simp [World.setCell]; omega, World.ownsRow.kept h3 ⟨rfl, rfl, rfl, by simp [World.setCell], fun k hk hn => heap_setCell_other w _ k _ (show k ≠ b from fun e => hn (by rw [e]))⟩ (row := some b) (by
          cases hv : v.ownBlock with
          | none => exact .inl rfl
          | some k => exact .inr (fun e => by injection e with e; have := (World.ownsRow.lt h3 k hv).1; omega)), p, h4, hH⟩
    have HW := hide hW
    have HM := hide (Mw.set b w v 2 (.bool true))
    clear hH hW hf h5 h3
    go_enter Tryz.func54, Tryz.ntmps54
    go_wp2_with fail
    refine hq.mono ?_
    rintro e w1 ⟨rfl, rfl⟩
    go_wp2
    go_ret
    exact ⟨rfl, HW.out, HM.out⟩
  · have hd : decide ((65536 : Int) < (t.length : Int) + (x.size : Int)) = false := decide_eq_false (by omega)
    have hf : fitB t x.size lg = lg := by unfold fitB; rw [decide_eq_false hg, Bool.or_false]
    rw [hf]
    have HW : Hid (Wr w b N v t lg) := hide ⟨h1, h2, h3, p, h4, h5⟩
    clear hf h5 h3
    go_enter Tryz.func54, Tryz.ntmps54
    go_wp2_with fail
    refine hq.mono ?_
    rintro e w1 ⟨rfl, rfl⟩
    go_wp2
    go_ret
    exact ⟨rfl, HW.out, Mw.refl _ _ _⟩
/-- A text more, if there is room. -/
def addT (t s : List UInt8) (lg : Bool) : List UInt8 := if fitB t s.length lg then t else t ++ s
theorem addT_le {t s : List UInt8} {lg : Bool} (h : t.length ≤ 65536) : (addT t s lg).length ≤ 65536 := by
  unfold addT fitB
  split
  · exact h
  · rename_i hn
    simp at hn
    rw [List.length_append]; omega
set_option maxRecDepth 100000 in
theorem add_any (b N : Nat) (v : Value) (t s : List UInt8) (lg : Bool) (w : World) (h : Wr w b N v t lg) (ht : t.length ≤ 65536) (hs : s.length ≤ 1000000) :
    Calls Tryz.prog 42 #[.pointer (some ⟨b, 0, none⟩), .string (bs s)] w fun e w' => e = .returned (.tuple #[]) ∧ ∃ v', Wr w' b N v' (addT t s lg) (fitB t s.length lg) ∧ Mw b w v w' v' := by
  have hq := fits_any b N v t (bs s) lg w h ht (by rw [bs_size]; omega)
  rw [bs_size] at hq
  obtain ⟨R, hR⟩ : ∃ R, fitB t s.length lg = R := ⟨_, rfl⟩
  obtain ⟨T, hT⟩ : ∃ T, addT t s lg = T := ⟨_, rfl⟩
  have hT2 : T = if R then t else t ++ s := by rw [← hT, ← hR]; rfl
  have hfit : R = false → t.length + s.length ≤ 65536 := fun e => by rw [e] at hR; unfold fitB at hR; simp at hR; omega
  rw [hR] at hq ⊢
  rw [hT]
  have HT := hide hT2
  clear hT hR hT2 h
  go_enter Tryz.func42, Tryz.ntmps42
  go_wp2_with fail
  refine hq.mono ?_
  rintro e w1 ⟨rfl, hW1, hM1⟩
  cases R with
  | true =>
    have HT2 : Hid (T = t) := hide HT.out
    have HW1 := hide hW1
    have HM1 := hide hM1
    clear hW1 hM1 hq
    go_wp2
    go_end0
    rw [HT2.out]
    exact ⟨rfl, _, HW1.out, HM1.out⟩
  | false =>
    have HT2 : Hid (T = t ++ s) := hide HT.out
    have HM1 := hide hM1
    have hf := hfit rfl
    clear hM1 hq
    go_wp2_with fail
    refine (writeStr_any b N v t s false _ hW1 (by omega)).mono ?_
    rintro e w2 ⟨⟨x, y, rfl⟩, v2, hW2, hM2⟩
    have HW2 := hide hW2
    have HM2 := hide (HM1.out.trans hM2)
    clear hW1 hW2 hM2
    go_wp2
    go_end0
    rw [HT2.out]
    exact ⟨rfl, _, HW2.out, HM2.out⟩
/-- A state of a writer: text, and is it long? -/
abbrev WS := List UInt8 × Bool
def addW (s : List UInt8) (x : WS) : WS := (addT x.1 s x.2, fitB x.1 s.length x.2)
def wordW (s : List UInt8) (x : WS) : WS := addW s (addW [32] x)
theorem addW_le {s : List UInt8} {x : WS} (h : x.1.length ≤ 65536) : (addW s x).1.length ≤ 65536 := addT_le h
theorem wordW_le {s : List UInt8} {x : WS} (h : x.1.length ≤ 65536) : (wordW s x).1.length ≤ 65536 := addT_le (addT_le h)
set_option maxRecDepth 100000 in
theorem addWord_any (b N : Nat) (v : Value) (x : WS) (s : List UInt8) (w : World) (h : Wr w b N v x.1 x.2) (ht : x.1.length ≤ 65536) (hs : s.length ≤ 1000000) :
    Calls Tryz.prog 102 #[.pointer (some ⟨b, 0, none⟩), .string (bs s)] w fun e w' => e = .returned (.tuple #[]) ∧ ∃ v', Wr w' b N v' (wordW s x).1 (wordW s x).2 ∧ Mw b w v w' v' := by
  go_enter Tryz.func102, Tryz.ntmps102
  go_wp2_with fail
  refine (add_any b N v x.1 [32] x.2 _ h ht (by simp)).mono ?_
  rintro e w1 ⟨rfl, v1, hW1, hM1⟩
  have HM1 := hide hM1
  clear hM1 h
  go_wp2_with fail
  refine (add_any b N v1 (addW [32] x).1 s (addW [32] x).2 _ hW1 (addT_le ht) hs).mono ?_
  rintro e w2 ⟨rfl, v2, hW2, hM2⟩
  have HW2 := hide hW2
  have HM2 := hide (HM1.out.trans hM2)
  clear hW1 hW2 hM2
  go_wp2
  go_end0
  exact ⟨rfl, v2, HW2.out, HM2.out⟩
end Go.Proofs.YtepgoehpjafbhaaGreatDoor
/-
  script's writer: numbers, names, the first word.
-/
namespace Go.Proofs.YtepgoehpjafbhaaGreatDoor
open Go.RowKit S
set_option linter.unusedVariables false
set_option linter.unusedSimpArgs false
/-- What of the library's variables is used, for both ways. -/
structure EnvW (E : Prop) (B : Nat) (F : Int → List UInt8) (w : World) : Prop where
  env : Env E B F w
  ito : ∀ n : Int, -9223372036854775808 ≤ n → n ≤ 9223372036854775807 → ∀ w', Below B w w' → Calls Tryz.prog 107 #[.int .i64 n] w' fun e w'' => e = .returned (.string (bs (F n))) ∧ Below w'.heap.size w' w''
  len : ∀ n, (F n).length ≤ 24
theorem EnvW.below {E : Prop} {B : Nat} {F : Int → List UInt8} {w w' : World} (h : EnvW E B F w) (k : Below B w w') : EnvW E B F w' := ⟨h.env.below k, fun n a b w'' k' => h.ito n a b w'' (k.trans k'), h.len⟩
theorem Mw.below {b B : Nat} {w w' : World} {v v' : Value} (h : Mw b w v w' v') (hB : B ≤ w.heap.size) (hb : B ≤ b) (hv : ∀ k, v.ownBlock = some k → B ≤ k) : Below B w w' :=
  ⟨h.os, h.tape, h.output, h.size, fun k hk => h.block k (by omega) (by omega) (fun e => by have := hv k e; omega)⟩
theorem Mw.ne {b c : Nat} {w w' : World} {v v' : Value} (h : Mw b w v w' v') (hc : c < w.heap.size) (hv : v.ownBlock ≠ some c) : v'.ownBlock ≠ some c := fun e => by
  rcases h.own c e with h1 | h1
  · exact hv h1
  · omega
theorem Wr.row {w : World} {b N : Nat} {v : Value} {t : List UInt8} {lg : Bool} (h : Wr w b N v t lg) : ∀ k, v.ownBlock = some k → N ≤ k := fun k e => (World.ownsRow.lt h.2.2.1 k e).1
theorem nameOf_yes (nb n : Nat) (zs : List ByteArray) (k : Nat) (x : List UInt8) (w : World) (h : Nm w nb zs) (hn : n = zs.length) (hk : zs[k]? = some (bs x)) (hx : x ≠ []) (hz : zs.length ≤ 100) :
    Calls Tryz.prog 103 #[.slice (some ⟨nb, 0, none⟩) n n, .int .i64 (k : Int)] w fun e w' => e = .returned (.string (bs x)) ∧ w' = w := by
  have hkl : k < zs.length := (List.getElem?_eq_some_iff.1 hk).1
  have hl : k < n := by omega
  have hn100 : n ≤ 100 := by omega
  have c1 := h.len k (bs x) hk
  have hd : decide ((0 : Int) ≤ (k : Int)) = true := decide_eq_true (by omega)
  have hd2 : decide ((k : Int) < (n : Int)) = true := decide_eq_true (by omega)
  have he : (bs x).toList.isEmpty = false := by
    cases x with
    | nil => exact absurd rfl hx
    | cons c t => exact emp_cons c t
  clear hn hk
  go_enter Tryz.func103, Tryz.ntmps103
  go_wp2_with fail
  refine (require_yes _).mono ?_
  rintro e w1 ⟨rfl, rfl⟩
  go_wp2
  go_ret
  exact ⟨rfl, rfl⟩
theorem nameOf_no (nb n : Nat) (zs : List ByteArray) (k : Int) (w : World) (h : Nm w nb zs) (hn : n = zs.length) (hk : ¬ (0 ≤ k ∧ k < (n : Int)) ∨ ∃ i : Nat, k = (i : Int) ∧ zs[i]? = some (bs [])) (hz : zs.length ≤ 100) :
    Calls Tryz.prog 103 #[.slice (some ⟨nb, 0, none⟩) n n, .int .i64 k] w fun e w' => Bad e ∧ w' = w := by
  have hn100 : n ≤ 100 := by omega
  rcases hk with hk | ⟨i, rfl, hi⟩
  · by_cases h0 : 0 ≤ k
    · have hd : decide ((0 : Int) ≤ k) = true := decide_eq_true h0
      have hd2 : decide (k < (n : Int)) = false := decide_eq_false (by omega)
      clear hn
      go_enter Tryz.func103, Tryz.ntmps103
      go_wp2_with fail
      refine (require_no _).mono ?_
      rintro e w1 ⟨rfl, rfl⟩
      go_wp2
      exact ⟨rfl, rfl, rfl⟩
    · have hd : decide ((0 : Int) ≤ k) = false := decide_eq_false h0
      clear hn
      go_enter Tryz.func103, Tryz.ntmps103
      go_wp2_with fail
      refine (require_no _).mono ?_
      rintro e w1 ⟨rfl, rfl⟩
      go_wp2
      exact ⟨rfl, rfl, rfl⟩
  · have hkl : i < zs.length := (List.getElem?_eq_some_iff.1 hi).1
    have hl : i < n := by omega
    have c1 := h.len i (bs []) hi
    have hd : decide ((0 : Int) ≤ (i : Int)) = true := decide_eq_true (by omega)
    have hd2 : decide ((i : Int) < (n : Int)) = true := decide_eq_true (by omega)
    have he := emp_nil
    clear hn
    go_enter Tryz.func103, Tryz.ntmps103
    go_wp2_with fail
    refine (require_no _).mono ?_
    rintro e w1 ⟨rfl, rfl⟩
    go_wp2
    exact ⟨rfl, rfl, rfl⟩
set_option maxRecDepth 100000 in
theorem wnumber_any {E : Prop} {B : Nat} {F : Int → List UInt8} (b N c off m : Nat) (ty : TypeId) (f : Nat → Value) (n : Int) (v : Value) (x : WS) (w : World) (hE : EnvW E B F w) (hB : B ≤ w.heap.size) (hb : B ≤ b) (hN : B ≤ N)
    (hW : Wr w b N v x.1 x.2) (hC : Has w c ty f m) (ho : off < m) (hf : f off = .int .i64 n) (h1 : -9223372036854775808 ≤ n) (h2 : n ≤ 9223372036854775807) (ht : x.1.length ≤ 65536) :
    Calls Tryz.prog 98 #[.pointer (some ⟨b, 0, none⟩), .pointer (some ⟨c, off, none⟩)] w fun e w' => e = .returned (.tuple #[]) ∧ ∃ v', Wr w' b N v' (wordW (F n) x).1 (wordW (F n) x).2 ∧ Mw b w v w' v' := by
  have c0 : w.cell? ⟨c, off, none⟩ = some (.int .i64 n) := by rw [hC.cell off ho, hf]
  clear hf
  go_enter Tryz.func98, Tryz.ntmps98
  go_wp2_with fail
  refine (hE.env.fmt n h1 h2 _ (Below.refl _ _)).mono ?_
  rintro e w1 ⟨rfl, b1⟩
  have hW1 := hW.below b1
  have HM1 : Hid (Mw b w v w1 v) := hide (Mw.of b1)
  clear b1
  go_wp2_with fail
  refine (addWord_any b N v x (F n) _ hW1 ht (by have := hE.len n; omega)).mono ?_
  rintro e w2 ⟨rfl, v2, hW2, hM2⟩
  have HW2 := hide hW2
  have HM2 := hide (HM1.out.trans hM2)
  clear hW2 hM2 hW1
  go_wp2
  go_end0
  exact ⟨rfl, v2, HW2.out, HM2.out⟩
set_option maxRecDepth 100000 in
theorem wwhole_any {E : Prop} {B : Nat} {F : Int → List UInt8} (b N c off m : Nat) (ty : TypeId) (f : Nat → Value) (n : Int) (v : Value) (x : WS) (w : World) (hE : EnvW E B F w) (hB : B ≤ w.heap.size) (hb : B ≤ b) (hN : B ≤ N)
    (hW : Wr w b N v x.1 x.2) (hC : Has w c ty f m) (ho : off < m) (hf : f off = .int .i64 n) (h1 : -9223372036854775808 ≤ n) (h2 : n ≤ 9223372036854775807) (ht : x.1.length ≤ 65536) :
    Calls Tryz.prog 100 #[.pointer (some ⟨b, 0, none⟩), .pointer (some ⟨c, off, none⟩)] w fun e w' => e = .returned (.tuple #[]) ∧ ∃ v', Wr w' b N v' (wordW (F n) x).1 (wordW (F n) x).2 ∧ Mw b w v w' v' := by
  have c0 : w.cell? ⟨c, off, none⟩ = some (.int .i64 n) := by rw [hC.cell off ho, hf]
  clear hf
  go_enter Tryz.func100, Tryz.ntmps100
  go_wp2_with fail
  refine (hE.ito n h1 h2 _ (Below.refl _ _)).mono ?_
  rintro e w1 ⟨rfl, b1⟩
  have hW1 := hW.below b1
  have HM1 : Hid (Mw b w v w1 v) := hide (Mw.of b1)
  clear b1
  go_wp2_with fail
  refine (addWord_any b N v x (F n) _ hW1 ht (by have := hE.len n; omega)).mono ?_
  rintro e w2 ⟨rfl, v2, hW2, hM2⟩
  have HW2 := hide hW2
  have HM2 := hide (HM1.out.trans hM2)
  clear hW2 hM2 hW1
  go_wp2
  go_end0
  exact ⟨rfl, v2, HW2.out, HM2.out⟩
end Go.Proofs.YtepgoehpjafbhaaGreatDoor
