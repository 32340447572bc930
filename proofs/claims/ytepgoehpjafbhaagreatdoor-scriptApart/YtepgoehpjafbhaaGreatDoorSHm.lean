/-
  head: what its four calls tell.
-/
import Derived.Test.YtepgoehpjafbhaaGreatDoorSHx
import Derived.Test.YtepgoehpjafbhaaGreatDoorSPr
namespace Go.Proofs.YtepgoehpjafbhaaGreatDoor
open Go.RowKit S
set_option linter.unusedVariables false
set_option linter.unusedSimpArgs false
/-- Numbers below 100 are told as they are, whatever the table holds. -/
def Sm (F : Int → List UInt8) : Prop := ∀ i : Nat, i < 100 → F (i : Int) = Lib.decDigits i
theorem sm_T (T : Nat → Int) : Sm (fmtT T) := fmtT_small T
theorem Sm.d0 {F : Int → List UInt8} (h : Sm F) : F 0 = [48] := (h 0 (by omega)).trans (by decide +kernel)
theorem Sm.d1 {F : Int → List UInt8} (h : Sm F) : F 1 = [49] := (h 1 (by omega)).trans (by decide +kernel)
theorem Sm.d2 {F : Int → List UInt8} (h : Sm F) : F 2 = [50] := (h 2 (by omega)).trans (by decide +kernel)
def hd1 : List UInt8 := [100, 101, 108, 105, 118, 101, 114, 32, 49, 10, 106, 111, 105, 110, 101, 100]
def hd3 : List UInt8 := [100, 101, 108, 105, 118, 101, 114, 32, 48, 49]
def cmdA : Nat → Value := upd (upd (upd zC 0 (.int .i64 2)) 133 (.int .i64 4)) 134 (.int .i64 1)
def cmdB : Nat → Value := upd zC 0 (.int .i64 9)
theorem lineD (F : Int → List UInt8) (l : List UInt8) : lineA F ([100, 101, 108, 105, 118, 101, 114, 32] ++ l) = (numberA F (32 :: l)).bind fun y => if y.2 = [] then some (upd (upd (upd zC 0 (.int .i64 2)) 133 (.int .i64 4)) 134 (.int .i64 y.1), []) else none := by
  have h1 : kindB moveN [100, 101, 108, 105, 118, 101, 114] = true := by kernel_rfl
  have h2 : Lib.idxOfS moveN (bs [100, 101, 108, 105, 118, 101, 114]) = 4 := by kernel_rfl
  have hw : wordOf ([100, 101, 108, 105, 118, 101, 114, 32] ++ l) = [100, 101, 108, 105, 118, 101, 114] := rfl
  have hr : restOf ([100, 101, 108, 105, 118, 101, 114, 32] ++ l) = 32 :: l := rfl
  unfold lineA commandP headA
  rw [hw, hr, if_pos h1, h2]
  show Option.bind (bodyP F 2 4 (upd (upd zC 0 (.int .i64 2)) 133 (.int .i64 4)) _) _ = _
  unfold bodyP
  rw [if_neg (by decide), if_pos rfl]
  unfold moveP
  rw [if_neg (by decide), if_pos (by decide)]
  cases numberA F (32 :: l) <;> rfl
theorem lineJ (F : Int → List UInt8) : lineA F [106, 111, 105, 110, 101, 100] = some (cmdB, []) := by
  have h1 : kindB moveN [106, 111, 105, 110, 101, 100] = false := by kernel_rfl
  have h3 : kindB commN [106, 111, 105, 110, 101, 100] = true := by kernel_rfl
  have h2 : Lib.idxOfS commN (bs [106, 111, 105, 110, 101, 100]) = 9 := by kernel_rfl
  have hw : wordOf [106, 111, 105, 110, 101, 100] = [106, 111, 105, 110, 101, 100] := rfl
  have hr : restOf [106, 111, 105, 110, 101, 100] = [] := rfl
  unfold lineA commandP headA
  rw [hw, hr, h1, if_neg (by decide), if_pos h3, h2]
  show Option.bind (bodyP F 9 0 (upd zC 0 (.int .i64 9)) []) _ = _
  unfold bodyP
  rw [if_neg (by decide), if_neg (by decide), if_neg (by decide), if_neg (by decide)]
  rfl
theorem head_1 {F : Int → List UInt8} (hF : Sm F) : parseA F hd1 = ([(cmdA, []), (cmdB, [])], 0) := by
  have ht : tooL hd1 = false := by kernel_rfl
  have hl : linesL hd1 = [[100, 101, 108, 105, 118, 101, 114, 32] ++ [49], [106, 111, 105, 110, 101, 100]] := by kernel_rfl
  have hn : numberA F (32 :: [49]) = some (1, []) := by
    have h : Lib.parseIntB 64 [49] = .ok 1 := by kernel_rfl
    show Option.map _ (match Lib.parseIntB 64 [49] with | .ok v => if F v = [49] then some v else none | _ => none) = _
    rw [h]
    show Option.map _ (if F 1 = [49] then some 1 else none) = _
    rw [if_pos hF.d1]
    rfl
  unfold parseA
  rw [ht, if_neg (by decide), hl, readA_cons, if_neg (by decide), lineD, hn, readA_cons, if_neg (by decide), lineJ]
  rfl
theorem head_3 {F : Int → List UInt8} (hF : Sm F) : parseA F hd3 = ([], 250) := by
  have ht : tooL hd3 = false := by kernel_rfl
  have hl : linesL hd3 = [[100, 101, 108, 105, 118, 101, 114, 32] ++ [48, 49]] := by kernel_rfl
  have hn : numberA F (32 :: [48, 49]) = none := by
    have h : Lib.parseIntB 64 [48, 49] = .ok 1 := by kernel_rfl
    show Option.map _ (match Lib.parseIntB 64 [48, 49] with | .ok v => if F v = [48, 49] then some v else none | _ => none) = _
    rw [h]
    show Option.map _ (if F 1 = [48, 49] then some 1 else none) = _
    rw [if_neg (by rw [hF.d1]; decide)]
    rfl
  unfold parseA
  rw [ht, if_neg (by decide), hl, readA_cons, if_neg (by decide), lineD, hn]
  rfl
/-- A step that is a crash, and its fate. -/
def gH : Nat → Value := upd (upd (upd (upd zF 0 (.string (bs [102]))) 1 (.int .i64 2)) 2 (.int .i64 2)) 3 (.string (bs [97, 0]))
def cmdH (v : Value) : Nat → Value := upd (upd (upd (upd zC 0 (.int .i64 2)) 133 (.int .i64 1)) 135 (.int .i64 12)) 173 v
def hd2 : List UInt8 := [115, 116, 101, 112, 32, 48, 32, 99, 114, 97, 115, 104, 32, 48, 32, 114, 101, 112, 108, 97, 99, 101, 32, 34, 102, 34, 32, 50, 32, 34, 97, 92, 120, 48, 48, 34, 10]
theorem head_2 {F : Int → List UInt8} (hF : Sm F) (v : Value) : printA F [(cmdH v, [gH])] = (hd2, 0) := by
  have e : linesW F [(cmdH v, [gH])] ([], false) = some (hd2, false) := by
    have h0 : headW (cmdH v) = some [115, 116, 101, 112] := by kernel_rfl
    have h1 : nmK stepN (kd (cmdH v 135)) = some [99, 114, 97, 115, 104] := by kernel_rfl
    have h2 : nmK fateN (kd (gH 2)) = some [114, 101, 112, 108, 97, 99, 101] := by kernel_rfl
    have k0 : kd (cmdH v 0) = 2 := rfl
    have k1 : kd (cmdH v 133) = 1 := rfl
    have k2 : kd (cmdH v 134) = 0 := rfl
    have k3 : kd (cmdH v 135) = 12 := rfl
    have k4 : kd (cmdH v 138) = 0 := rfl
    have k5 : kd (gH 1) = 2 := rfl
    have k6 : kd (gH 2) = 2 := rfl
    have k7 : sbv (gH 0) = [102] := rfl
    have k8 : sbv (gH 3) = [97, 0] := rfl
    rw [linesW_cons]
    unfold commandW moveW stepW
    rw [h0, h1, k0, k1, k2, k3, k4, hF.d0]
    simp only [Option.bind_some, show ((2 : Int) = 1) = False by simp, show ((12 : Int) = 1) = False by simp, show ((12 : Int) = 2) = False by simp, show ((12 : Int) = 3) = False by simp, show ((12 : Int) = 8) = False by simp, show ((12 : Int) = 10 ∨ (12 : Int) = 11) = False by simp, if_false, if_true]
    rw [fatesW_cons]
    unfold fateW
    rw [h2, k5, k6, k7, k8, hF.d2]
    show (_ : Option WS) = _
    kernel_rfl
  have ht : tooL hd2 = false := by kernel_rfl
  unfold printA
  rw [e]
  show (if false || tooL hd2 then (([], 3) : List UInt8 × Int) else (hd2, 0)) = _
  rw [ht]
  rfl
def cmdN : Nat → Value := upd zC 0 (.int .i64 10)
theorem head_4 (F : Int → List UInt8) : printA F [(cmdN, [])] = ([], 250) := by
  have h0 : headW cmdN = none := by kernel_rfl
  have e : linesW F [(cmdN, [])] ([], false) = none := by
    rw [linesW_cons]
    unfold commandW
    rw [h0]
    rfl
  unfold printA
  rw [e]
theorem head_q : quoteB [34] = [34, 92, 34, 34] := by kernel_rfl
/-- Hash 171, 0, 0 .. -/
def hAb : Nat → UInt8 := fun i => if i = 0 then 171 else 0
/-- One command with its fates, each in a block of its own. -/
theorem csin_one {w : World} {f : Nat → Value} {gs : List (Nat → Value)} {k : Nat} {ad : Option Addr} {cap : Nat} (h1 : CdOk f) (h2 : One 176 f) (h3 : gs.length ≤ 140737488355328) (h4 : f 173 = .slice ad gs.length cap) (h5 : FsIn w ad gs) (hk : k < w.heap.size) (hA : At w k 0 f 176) : CsIn w (some ⟨k, 0, none⟩) [(f, gs)] := by
  refine ⟨fun i c hc => ?_, .inr ⟨k, 0, rfl, hk, fun i c hc => ?_⟩⟩
  · cases i with
    | zero =>
      simp only [List.getElem?_cons_zero, Option.some.injEq] at hc
      subst hc
      exact ⟨h1, h2, h3, ad, cap, h4, h5⟩
    | succ i => simp at hc
  · cases i with
    | zero =>
      simp only [List.getElem?_cons_zero, Option.some.injEq] at hc
      subst hc
      simpa using hA
    | succ i => simp at hc
theorem fsin_one {w : World} {g : Nat → Value} {k : Nat} (h1 : FtOk g) (h2 : One 4 g) (hk : k < w.heap.size) (hA : At w k 0 g 4) : FsIn w (some ⟨k, 0, none⟩) [g] := by
  refine ⟨fun i c hc => ?_, .inr ⟨k, 0, rfl, hk, fun i c hc => ?_⟩⟩
  · cases i with
    | zero =>
      simp only [List.getElem?_cons_zero, Option.some.injEq] at hc
      subst hc
      exact ⟨h1, h2⟩
    | succ i => simp at hc
  · cases i with
    | zero =>
      simp only [List.getElem?_cons_zero, Option.some.injEq] at hc
      subst hc
      simpa using hA
    | succ i => simp at hc
theorem fsin_nil (w : World) (ad : Option Addr) : FsIn w ad [] := ⟨fun i g h => by simp at h, .inl rfl⟩
theorem cdok_zC : CdOk zC := by
  refine ⟨fun o ho => ?_, fun o ho => ?_, fun o ho i hi => ?_⟩
  · simp only [List.mem_cons, List.not_mem_nil, or_false] at ho
    rcases ho with rfl | rfl | rfl | rfl | rfl | rfl | rfl | rfl | rfl | rfl | rfl | rfl | rfl <;> exact ⟨rfl, by unfold InR; decide⟩
  · simp only [List.mem_cons, List.not_mem_nil, or_false] at ho
    rcases ho with rfl | rfl <;> exact ⟨rfl, by decide⟩
  · have e : zC (o + i) = .int .u8 0 := by
      simp only [List.mem_cons, List.not_mem_nil, or_false] at ho
      unfold zC
      rcases ho with rfl | rfl | rfl | rfl | rfl <;> (rw [if_neg (by omega), if_neg (by omega), if_pos (by omega)])
    unfold bv hbv
    rw [e]
    rfl
theorem CdOk.updI {f : Nat → Value} (h : CdOk f) (k : Nat) (x : Int) (hx : InR x) (hk : k ∈ [0, 1, 2, 131, 132, 133, 134, 135, 136, 137, 138, 174, 175]) : CdOk (upd f k (.int .i64 x)) := by
  simp only [List.mem_cons, List.not_mem_nil, or_false] at hk
  refine ⟨fun o ho => ?_, fun o ho => ?_, fun o ho i hi => ?_⟩
  · by_cases e : o = k
    · subst e
      have : upd f o (.int .i64 x) o = .int .i64 x := by unfold S.upd; rw [if_pos rfl]
      rw [this]
      exact ⟨rfl, hx⟩
    · have : upd f k (.int .i64 x) o = f o := by unfold S.upd; rw [if_neg e]
      rw [this]
      exact h.int o ho
  · have e : o ≠ k := by simp only [List.mem_cons, List.not_mem_nil, or_false] at ho; omega
    have : upd f k (.int .i64 x) o = f o := by unfold S.upd; rw [if_neg e]
    rw [this]
    exact h.str o ho
  · have e : ∀ j, j < 32 → upd f k (.int .i64 x) (o + j) = f (o + j) := fun j hj => by
      have : o + j ≠ k := by simp only [List.mem_cons, List.not_mem_nil, or_false] at ho; omega
      unfold S.upd; rw [if_neg this]
    have e2 := h.hash o ho i hi
    rw [e i hi, e2]
    unfold bv hbv
    rw [e i hi]
theorem CdOk.upd173 {f : Nat → Value} (h : CdOk f) (v : Value) : CdOk (upd f 173 v) := by
  have e : ∀ o, o ≠ 173 → upd f 173 v o = f o := fun o ho => by unfold S.upd; rw [if_neg ho]
  refine ⟨fun o ho => ?_, fun o ho => ?_, fun o ho i hi => ?_⟩
  · rw [e o (by simp only [List.mem_cons, List.not_mem_nil, or_false] at ho; omega)]
    exact h.int o ho
  · rw [e o (by simp only [List.mem_cons, List.not_mem_nil, or_false] at ho; omega)]
    exact h.str o ho
  · have e3 : ∀ j, j < 32 → upd f 173 v (o + j) = f (o + j) := fun j hj => e _ (by simp only [List.mem_cons, List.not_mem_nil, or_false] at ho; omega)
    have e2 := h.hash o ho i hi
    rw [e3 i hi, e2]
    unfold bv hbv
    rw [e3 i hi]
theorem cdok_H (v : Value) : CdOk (cmdH v) := (((cdok_zC.updI 0 2 (by unfold InR; decide) (by decide)).updI 133 1 (by unfold InR; decide) (by decide)).updI 135 12 (by unfold InR; decide) (by decide)).upd173 v
theorem one_H (v : Value) (hv : v.oneCell' = true) : One 176 (cmdH v) := (((one_zC.upd _ _ rfl).upd _ _ rfl).upd _ _ rfl).upd _ _ hv
theorem ftok_gH : FtOk gH := by
  refine ⟨fun o ho => ?_, fun o ho => ?_⟩
  · simp only [List.mem_cons, List.not_mem_nil, or_false] at ho
    rcases ho with rfl | rfl <;> exact ⟨rfl, by unfold InR; decide⟩
  · simp only [List.mem_cons, List.not_mem_nil, or_false] at ho
    rcases ho with rfl | rfl <;> exact ⟨rfl, by decide⟩
theorem one_gH : One 4 gH := (((one_zF.upd _ _ rfl).upd _ _ rfl).upd _ _ rfl).upd _ _ rfl
theorem one_N : One 176 cmdN := one_zC.upd _ _ rfl
theorem cdok_N : CdOk cmdN := cdok_zC.updI 0 10 (by unfold InR; decide) (by decide)
/-- What may be read of commands of one's own. -/
theorem Cmds.row {B : Nat} {w : World} {v : Value} {gs : List (Nat → Value)} {cs : List Cd} (h : Cmds B w v gs cs) (hn : cs ≠ []) : ∃ k cap, v = .slice (some ⟨k, 0, none⟩) cs.length cap ∧ B ≤ k ∧ k < w.heap.size ∧ ∀ i c, cs[i]? = some c → ∀ j, j < 176 → j ≠ 173 → w.cell? ⟨k, i * 176 + j, none⟩ = some (c.1 j) := by
  obtain ⟨ad, cap, rfl, hs⟩ := h.own.shape
  rcases hs with rfl | ⟨k, rfl, h1, h2, h3⟩
  · have := h.len
    cases cs with
    | nil => exact absurd rfl hn
    | cons c t => simp at this
  · refine ⟨k, cap, by rw [h.len], h1, h2, fun i c hc j hj h173 => ?_⟩
    have hi := (List.getElem?_eq_some_iff.1 hc).1
    rw [← h.len] at hi
    have hg : gs[i]? = some gs[i] := List.getElem?_eq_getElem hi
    rw [h3 i _ hg j hj, (h.each i _ c hg hc).1 j hj]
    unfold S.upd
    rw [if_neg h173]
/-- No number of these lines is none. -/
theorem numT_of {l wd r : List UInt8} {v : Int} (h : nextW l = some (wd, r)) (hp : Lib.parseIntB 64 wd = .ok v) : numT l := fun x hx => by
  rw [h] at hx
  cases hx
  exact ⟨v, hp⟩
theorem lineT_D (F : Int → List UInt8) (l : List UInt8) (h : numT (32 :: l)) : lineT F ([100, 101, 108, 105, 118, 101, 114, 32] ++ l) := by
  have h1 : kindB moveN [100, 101, 108, 105, 118, 101, 114] = true := by kernel_rfl
  have h2 : Lib.idxOfS moveN (bs [100, 101, 108, 105, 118, 101, 114]) = 4 := by kernel_rfl
  have hw : wordOf ([100, 101, 108, 105, 118, 101, 114, 32] ++ l) = [100, 101, 108, 105, 118, 101, 114] := rfl
  have hr : restOf ([100, 101, 108, 105, 118, 101, 114, 32] ++ l) = 32 :: l := rfl
  intro f1 hf
  unfold headA at hf
  rw [hw, if_pos h1, h2] at hf
  cases hf
  rw [hr]
  refine ⟨fun e => absurd e (by decide), fun _ => ⟨fun e => absurd e (by decide), fun _ => h⟩, fun e => absurd e (by decide)⟩
theorem lineT_J (F : Int → List UInt8) : lineT F [106, 111, 105, 110, 101, 100] := by
  have h1 : kindB moveN [106, 111, 105, 110, 101, 100] = false := by kernel_rfl
  have h3 : kindB commN [106, 111, 105, 110, 101, 100] = true := by kernel_rfl
  have h2 : Lib.idxOfS commN (bs [106, 111, 105, 110, 101, 100]) = 9 := by kernel_rfl
  have hw : wordOf [106, 111, 105, 110, 101, 100] = [106, 111, 105, 110, 101, 100] := rfl
  intro f1 hf
  unfold headA at hf
  rw [hw, h1, if_neg (by decide), if_pos h3, h2] at hf
  cases hf
  exact ⟨fun e => absurd e (by decide), fun e => absurd e (by decide), fun e => absurd e (by decide)⟩
theorem textT_1 (F : Int → List UInt8) : ∀ x ∈ linesL hd1, noth x = false → lineT F x := by
  have hl : linesL hd1 = [[100, 101, 108, 105, 118, 101, 114, 32] ++ [49], [106, 111, 105, 110, 101, 100]] := by kernel_rfl
  rw [hl]
  intro x hx _
  rcases List.mem_cons.1 hx with rfl | hx
  · exact lineT_D F _ (numT_of (wd := [49]) (r := []) rfl (by kernel_rfl : Lib.parseIntB 64 [49] = .ok 1))
  · rcases List.mem_singleton.1 hx with rfl
    exact lineT_J F
theorem textT_3 (F : Int → List UInt8) : ∀ x ∈ linesL hd3, noth x = false → lineT F x := by
  have hl : linesL hd3 = [[100, 101, 108, 105, 118, 101, 114, 32] ++ [48, 49]] := by kernel_rfl
  rw [hl]
  intro x hx _
  rcases List.mem_singleton.1 hx with rfl
  exact lineT_D F _ (numT_of (wd := [48, 49]) (r := []) rfl (by kernel_rfl : Lib.parseIntB 64 [48, 49] = .ok 1))
end Go.Proofs.YtepgoehpjafbhaaGreatDoor
