/-
  script's reader: what the lines of a text say.
-/
import Derived.Test.YtepgoehpjafbhaaGreatDoorSLn
namespace Go.Proofs.YtepgoehpjafbhaaGreatDoor
open Go.RowKit S
set_option linter.unusedVariables false
set_option linter.unusedSimpArgs false
abbrev Cd := (Nat → Value) × List (Nat → Value)
/-- A row of commands of one's own, each with fates of its own. -/
structure Cmds (B : Nat) (w : World) (v : Value) (gs : List (Nat → Value)) (cs : List Cd) : Prop where
  own : OwnC B w v gs
  len : gs.length = cs.length
  each : ∀ (i : Nat) (g : Nat → Value) (c : Cd), gs[i]? = some g → cs[i]? = some c → (∀ j, j < 176 → g j = upd c.1 173 (g 173) j) ∧ OwnF B w (g 173) c.2 ∧ One 176 g
  ap1 : ∀ (i : Nat) (g : Nat → Value) (k : Nat), gs[i]? = some g → (g 173).ownBlock = some k → v.ownBlock ≠ some k
  ap2 : ∀ (i j : Nat) (g h : Nat → Value) (k : Nat), i ≠ j → gs[i]? = some g → gs[j]? = some h → (g 173).ownBlock = some k → (h 173).ownBlock ≠ some k
theorem Cmds.nil (B : Nat) (w : World) : Cmds B w (.slice none 0 0) [] [] :=
  ⟨OwnC.nil _ _, rfl, fun i g c h => by simp at h, fun i g k h => by simp at h, fun i j g h k _ e => by simp at e⟩
theorem Cmds.below {B : Nat} {w w' : World} {v : Value} {gs : List (Nat → Value)} {cs : List Cd} (h : Cmds B w v gs cs) (k : Below w.heap.size w w') : Cmds B w' v gs cs :=
  ⟨h.own.below k (Nat.le_refl _), h.len, fun i g c hg hc => ⟨(h.each i g c hg hc).1, (h.each i g c hg hc).2.1.below k (Nat.le_refl _), (h.each i g c hg hc).2.2⟩, h.ap1, h.ap2⟩
theorem Cmds.mono {B B' : Nat} {w : World} {v : Value} {gs : List (Nat → Value)} {cs : List Cd} (h : Cmds B w v gs cs) (k : B' ≤ B) : Cmds B' w v gs cs :=
  ⟨h.own.mono k, h.len, fun i g c hg hc => ⟨(h.each i g c hg hc).1, (h.each i g c hg hc).2.1.mono k, (h.each i g c hg hc).2.2⟩, h.ap1, h.ap2⟩
theorem Cmds.get {B : Nat} {w : World} {v : Value} {gs : List (Nat → Value)} {cs : List Cd} (h : Cmds B w v gs cs) (i : Nat) (g : Nat → Value) (hg : gs[i]? = some g) : ∃ c, cs[i]? = some c := by
  have hi := (List.getElem?_eq_some_iff.1 hg).1
  rw [h.len] at hi
  exact ⟨_, List.getElem?_eq_getElem hi⟩
/-- One command more: its fates are younger than N, the row and all others older. -/
theorem Cmds.push {B N : Nat} {w w' : World} {v v' : Value} {gs : List (Nat → Value)} {cs : List Cd} {g : Nat → Value} {c : Cd} (h : Cmds B w v gs cs)
    (hN : ∀ (i : Nat) (q : Nat → Value) (k : Nat), gs[i]? = some q → (q 173).ownBlock = some k → k < N) (hv : ∀ k, v.ownBlock = some k → k < N) (hB : B ≤ N)
    (h1 : ∀ j, j < 176 → g j = upd c.1 173 (g 173) j) (h2 : OwnF N w (g 173) c.2) (h3 : One 176 g)
    (ho : OwnC B w' v' (gs ++ [g])) (hk : ∀ q, q < w.heap.size → v.ownBlock ≠ some q → w'.heap[q]? = w.heap[q]?) (hv' : ∀ k, v'.ownBlock = some k → v.ownBlock = some k ∨ w.heap.size ≤ k) :
    Cmds B w' v' (gs ++ [g]) (cs ++ [c]) := by
  have hF : ∀ (x : Value) (fs : List (Nat → Value)) (M : Nat), OwnF M w x fs → (∀ k, x.ownBlock = some k → v.ownBlock ≠ some k) → OwnF M w' x fs := fun x fs M hx hn => hx.same fun k e => hk k (hx.lt k e).2 (hn k e)
  have hlast : ∀ (i : Nat) (q : Nat → Value), (gs ++ [g])[i]? = some q → (gs[i]? = some q) ∨ (i = gs.length ∧ q = g) := fun i q hq => by
    rcases Nat.lt_or_ge i gs.length with hi | hi
    · rw [List.getElem?_append_left hi] at hq; exact .inl hq
    · rw [List.getElem?_append_right hi] at hq
      have : i - gs.length = 0 := by
        cases hn : i - gs.length with
        | zero => rfl
        | succ n => rw [hn] at hq; simp at hq
      rw [this] at hq
      simp at hq
      exact .inr ⟨by omega, hq.symm⟩
  have hlt : ∀ (i : Nat) (q : Nat → Value) (k : Nat), gs[i]? = some q → (q 173).ownBlock = some k → k < w.heap.size := fun i q k hq e => by
    obtain ⟨c', hc'⟩ := h.get i q hq
    exact ((h.each i q c' hq hc').2.1.lt k e).2
  refine ⟨ho, by rw [List.length_append, List.length_append, h.len]; rfl, fun i q d hq hd => ?_, fun i q k hq e => ?_, fun i j q r k hij hq hr e e2 => ?_⟩
  · rcases hlast i q hq with hq' | ⟨rfl, rfl⟩
    · have hi := (List.getElem?_eq_some_iff.1 hq').1
      rw [h.len] at hi
      rw [List.getElem?_append_left hi] at hd
      obtain ⟨a1, a2, a3⟩ := h.each i q d hq' hd
      exact ⟨a1, hF _ _ _ a2 (fun k e => h.ap1 i q k hq' e), a3⟩
    · rw [h.len, List.getElem?_append_right (Nat.le_refl _), Nat.sub_self] at hd
      simp at hd
      subst hd
      exact ⟨h1, (hF _ _ _ h2 (fun k e e2 => by have := hv k e2; have := (h2.lt k e).1; omega)).mono hB, h3⟩
  · intro e2
    rcases hlast i q hq with hq' | ⟨rfl, rfl⟩
    · rcases hv' k e2 with e3 | e3
      · exact h.ap1 i q k hq' e e3
      · have := hlt i q k hq' e; omega
    · rcases hv' k e2 with e3 | e3
      · have := hv k e3; have := (h2.lt k e).1; omega
      · have := (h2.lt k e).2; omega
  · rcases hlast i q hq with hq' | ⟨hi, rfl⟩
    · rcases hlast j r hr with hr' | ⟨hj, rfl⟩
      · exact h.ap2 i j q r k hij hq' hr' e e2
      · have := hN i q k hq' e; have := (h2.lt k e2).1; omega
    · rcases hlast j r hr with hr' | ⟨hj, rfl⟩
      · have := hN j r k hr' e2; have := (h2.lt k e).1; omega
      · omega
def noth : List UInt8 → Bool
  | [] => true
  | c :: _ => c == 35
theorem saysNothing_any (l : List UInt8) (w : World) : Calls Tryz.prog 39 #[.string (bs l)] w fun e w' => e = .returned (.bool (noth l)) ∧ w' = w := by
  cases l with
  | nil =>
    have he := emp_nil
    go_enter Tryz.func39, Tryz.ntmps39
    go_wp2
    go_ret
    exact ⟨rfl, rfl⟩
  | cons c t =>
    have he := emp_cons c t
    have hz : 0 < (bs (c :: t)).size := by rw [bs_size]; simp
    have h35 : ((c.toNat : Int) == 35) = (c == 35) := by
      by_cases h : c = 35
      · subst h; rfl
      · rw [beq_eq_false_iff_ne.2 h, beq_eq_false_iff_ne]; exact fun e => h (u8_of_int c 35 e)
    go_enter Tryz.func39, Tryz.ntmps39
    go_wp2
    go_ret
    refine ⟨?_, rfl⟩
    show Ending.returned (.bool (((bs (c :: t))[0].toNat : Int) == 35)) = _
    have : (bs (c :: t))[0] = c := rfl
    rw [this, h35]
    rfl
def readA (F : Int → List UInt8) : List (List UInt8) → Option (List Cd)
  | [] => some []
  | x :: xs => if noth x then readA F xs else (lineA F x).bind fun c => (readA F xs).map fun y => c :: y
theorem readA_cons (F : Int → List UInt8) (x : List UInt8) (xs : List (List UInt8)) : readA F (x :: xs) = if noth x then readA F xs else (lineA F x).bind fun c => (readA F xs).map fun y => c :: y := rfl
def preR (acc : List Cd) (o : Option (List Cd)) : Option (List Cd) := o.map fun y => acc ++ y
theorem preR_cons (acc : List Cd) (c : Cd) (o : Option (List Cd)) : preR acc (o.map fun y => c :: y) = preR (acc ++ [c]) o := by
  cases o with
  | none => rfl
  | some y => unfold preR; simp
set_option maxRecDepth 100000 in
set_option maxHeartbeats 1600000 in
theorem read_any {E : Prop} {B : Nat} {F : Int → List UInt8} (l : List UInt8) (w : World) (hE : Env E B F w) (hB : B ≤ w.heap.size) (hl : l.length ≤ 65536) (hg : E ∨ ∀ x ∈ linesL l, noth x = false → lineT F x) :
    Calls Tryz.prog 27 #[.string (bs l)] w fun e w' => Below w.heap.size w w' ∧
      ((∃ v gs cs, readA F (linesL l) = some cs ∧ e = .returned v ∧ Cmds w.heap.size w' v gs cs) ∨ (readA F (linesL l) = none ∧ Bad e)) := by
  have hLn := lines_len l
  have hmem := line_mem l
  have hq := split_any l w hE (by omega)
  obtain ⟨R, hR⟩ : ∃ R, readA F (linesL l) = R := ⟨_, rfl⟩
  rw [hR]
  have HQ := hide hR
  clear hR
  have HG := hide hg
  obtain ⟨L, hL⟩ : ∃ L, linesL l = L := ⟨_, rfl⟩
  rw [hL] at hq hLn hmem HQ HG
  obtain ⟨w1, hw1⟩ : ∃ x, w.alloc (.cells (nmC (L.map bs)) 9) = x := ⟨_, rfl⟩
  rw [hw1] at hq
  have HN1 : Hid (Nm w1 w.heap.size (L.map bs)) := hide (by rw [← hw1]; exact Nm.new w _)
  have HB1 : Hid (Below w.heap.size w w1) := hide (by rw [← hw1]; exact (Below.refl _ w).alloc (Nat.le_refl _) _)
  have hs1 : w1.heap.size = w.heap.size + 1 := by rw [← hw1, size_alloc]
  have Hmem := hide hmem
  have HE := hide hE
  clear hL hw1 hmem hE hg
  go_enter Tryz.func27, Tryz.ntmps27
  go_wp2_with fail
  refine hq.mono ?_
  rintro e w2 ⟨rfl, rfl⟩
  go_wp2
  go_loopw [3, 9] (fun v i wr => ∃ (k : Nat) (gs : List (Nat → Value)) (cs : List Cd), k ≤ L.length ∧ i = .int .i64 k ∧ Cmds (w.heap.size + 1) wr v gs cs ∧ cs.length ≤ k ∧ R = preR cs (readA F (L.drop k)) ∧ Below (w.heap.size + 1) w2 wr ∧ w.heap.size + 1 ≤ wr.heap.size) (fun _ i _ => L.length - (Lib.intOf i).toNat)
  case atStart =>
    refine ⟨0, [], [], by omega, rfl, Cmds.nil _ _, by simp, ?_, Below.refl _ _, by omega⟩
    rw [← HQ.out, List.drop_zero]
    unfold preR
    cases readA F L <;> simp
  case round =>
    obtain ⟨k, gs, cs, hk, rfl, hCm, hck, hRk, hBk, hsk⟩ := hrel
    have HCm := hide hCm
    have HRk := hide hRk
    have HBk := hide hBk
    clear hCm hRk hBk
    by_cases hlt : k < L.length
    · have hd : decide ((k : Int) < (L.length : Int)) = true := decide_eq_true (by omega)
      have hx : L[k]? = some L[k] := List.getElem?_eq_getElem hlt
      have HNr : Hid (Nm wr w.heap.size (L.map bs)) := hide (HN1.out.below HBk.out (by omega))
      have c1 := HNr.out.len k (bs L[k]) (by rw [List.getElem?_map, hx]; rfl)
      have hzl := Hmem.out L[k] (List.getElem_mem hlt)
      have HRk2 : Hid (R = preR cs (readA F (L[k] :: L.drop (k + 1)))) := hide (by rw [HRk.out, List.drop_eq_getElem_cons hlt])
      have HM := hide (List.getElem_mem hlt)
      generalize L[k] = xk at c1 hzl HRk2 HM
      clear hx
      have HEr := hide (HE.out.below ((HB1.out.trans (HBk.out.mono (by omega))).mono hB))
      go_wp2_with fail
      refine (saysNothing_any xk _).mono ?_
      rintro e w3 ⟨rfl, rfl⟩
      cases hno : noth xk with
      | true =>
        have HRk3 : Hid (R = preR cs (readA F (L.drop (k + 1)))) := hide (by rw [HRk2.out, readA_cons, if_pos hno])
        clear hno
        go_wp2
        refine ⟨⟨k + 1, gs, cs, by omega, by go_num, HCm.out, by omega, HRk3.out, HBk.out, hsk⟩, ?_⟩
        simp [Lib.intOf]; omega
      | false =>
        have HRk3 : Hid (R = preR cs ((lineA F xk).bind fun c => (readA F (L.drop (k + 1))).map fun y => c :: y)) := hide (by rw [HRk2.out, readA_cons, if_neg (by rw [hno]; decide)])
        have HTk := hide (HG.out.imp id fun h => h xk HM.out hno)
        clear hno
        go_wp2_with fail
        refine (said_any xk _ HEr.out (by omega) (by omega) HTk.out).mono ?_
        rintro e w4 ⟨b4, ⟨f, fs, x, hA, rfl, hOx, hOne⟩ | ⟨hA, rfl⟩⟩
        · have HRk4 : Hid (R = preR (cs ++ [(f, fs)]) (readA F (L.drop (k + 1)))) := hide (by rw [HRk3.out, hA]; exact preR_cons cs (f, fs) _)
          have hCm4 := HCm.out.below b4
          have hlg : gs.length = cs.length := HCm.out.len
          obtain ⟨v5, w5, w6, e1, e2, hO6, hk6, b6, hv6, hw5⟩ := appC_at w4 (w.heap.size + 1) _ gs (upd f 173 x) hCm4.own hOne (by omega) (by have := b4.size; omega)
          have hCm6 : Cmds (w.heap.size + 1) w6 v5 (gs ++ [upd f 173 x]) (cs ++ [(f, fs)]) := by
            refine hCm4.push (N := w3.heap.size) (fun i q kk hq e => ?_) (fun kk e => (HCm.out.own.lt kk e).2) hsk (fun j hj => ?_) ?_ hOne hO6 hk6 hv6
            · obtain ⟨c', hc'⟩ := HCm.out.get i q hq
              exact ((HCm.out.each i q c' hq hc').2.1.lt kk e).2
            · show upd f 173 x j = upd f 173 x j
              rfl
            · exact hOx
          have HCm6 := hide hCm6
          have HB6 := hide ((HBk.out.trans (b4.mono hsk)).trans b6)
          have hs6 : w.heap.size + 1 ≤ w6.heap.size := by have := b4.size; have := b6.size; omega
          clear hA hCm4 hCm6 hO6 hk6 b6 hv6 hOx b4
          go_wp2_with (first
            | refine wpList_slice1 rfl 25 _ rfl (.agg (tabv (upd f 173 x) 176)) (by rfl) e1 ?_
            | (at_builtin; refine wpList_app rfl _ _ _ rfl e2 ?_))
          refine ⟨⟨k + 1, gs ++ [upd f 173 x], cs ++ [(f, fs)], by omega, by go_num, HCm6.out, by simp; omega, HRk4.out, HB6.out, hs6⟩, ?_⟩
          simp [Lib.intOf]; omega
        · have HRn : Hid (R = none) := hide (by rw [HRk3.out, hA]; rfl)
          have HBn := hide (HB1.out.trans ((HBk.out.trans (b4.mono hsk)).mono (by omega)))
          clear hA b4
          go_wp2
          exact ⟨rfl, HBn.out, .inr ⟨HRn.out, rfl⟩⟩
    · have hke : k = L.length := by omega
      have HRn : Hid (R = some cs) := hide (by rw [HRk.out, hke, List.drop_length]; unfold preR readA; simp)
      have hd : decide ((k : Int) < (L.length : Int)) = false := decide_eq_false (by omega)
      have HBn := hide (HB1.out.trans (HBk.out.mono (by omega)))
      clear hke
      go_wp2
      go_ret
      exact ⟨HBn.out, .inl ⟨_, gs, cs, HRn.out, rfl, HCm.out.mono (by omega)⟩⟩
end Go.Proofs.YtepgoehpjafbhaaGreatDoor
