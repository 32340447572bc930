import Derived.Test.YtepgoehpjafbhaaGreatDoorSKe
import Derived.Deep.DeepCutAuto
/-
  ScriptApart: values that are built, rows of two commands.
-/
namespace Go.Proofs.YtepgoehpjafbhaaGreatDoor
open Go.RowKit S
set_option linter.unusedVariables false
set_option linter.unusedSimpArgs false
abbrev slV (k n c : Nat) : Value := .slice (some ⟨k, 0, none⟩) n c
def stA (v : Value) : Nat → Value := fun j => upd (cmdS 0) 173 v (135 + j)
def mvA (v : Value) (s : Nat) : Nat → Value := fun j => upd (cmdS s) 173 v (133 + j)
def cmA (v : Value) (s : Nat) : Nat → Value := upd (cmdS s) 173 v
set_option maxRecDepth 100000 in
theorem builtAf (T : ByteArray) (i : Int) : Tryz.prog.built 49 [(0, .string T), (1, .int .i64 i), (2, .int .i64 2), (3, .string T)] = some #[.string T, .int .i64 i, .int .i64 2, .string T] := by kernel_rfl
set_option maxRecDepth 100000 in
theorem builtAs (k n c : Nat) : Tryz.prog.built 33 [(0, .int .i64 12), (3, .int .i64 3), (7, slV k n c)] = some (tabv (stA (slV k n c)) 39) := by kernel_rfl
set_option maxRecDepth 100000 in
theorem builtAm0 (k n c : Nat) : Tryz.prog.built 35 [(0, .int .i64 1), (2, .agg (tabv (stA (slV k n c)) 39))] = some (tabv (mvA (slV k n c) 0) 41) := by kernel_rfl
set_option maxRecDepth 100000 in
theorem builtAm1 (k n c : Nat) : Tryz.prog.built 35 [(0, .int .i64 1), (1, .int .i64 1), (2, .agg (tabv (stA (slV k n c)) 39))] = some (tabv (mvA (slV k n c) 1) 41) := by kernel_rfl
set_option maxRecDepth 100000 in
theorem builtAc0 (k n c : Nat) : Tryz.prog.built 40 [(0, .int .i64 2), (2, .agg (tabv (mvA (slV k n c) 0) 41))] = some (tabv (cmA (slV k n c) 0) 176) := by kernel_rfl
set_option maxRecDepth 100000 in
theorem builtAc1 (k n c : Nat) : Tryz.prog.built 40 [(0, .int .i64 2), (2, .agg (tabv (mvA (slV k n c) 1) 41))] = some (tabv (cmA (slV k n c) 1) 176) := by kernel_rfl
set_option maxRecDepth 100000 in
theorem run_sliceC2 (w : World) (s r : Nat → Value) : (Instr.buildSlice 25 2 #[(0, .agg (tabv s 176)), (1, .agg (tabv r 176))]).run Tryz.prog w = .ok (.slice (some ⟨w.heap.size, 0, none⟩) 2 2) (w.alloc (.cells (tabv s 176 ++ tabv r 176) 40)) := by
  obtain ⟨i, h1, h2, h3, h4⟩ := infoCP
  have e : Instr.fill (fun i => some (i * 176, 176)) ((Array.range 352).map ((tabv zC 176)[· % 176]!)) [(0, .agg (tabv s 176)), (1, .agg (tabv r 176))] = some (tabv s 176 ++ tabv r 176) := by kernel_rfl
  have ez : (Value.agg (tabv zC 176)).cells = tabv zC 176 := rfl
  simp only [Instr.buildSlice, Sem.run_bind, run_underlying Tryz.underlying25, Result.andThen_ok, sizeOf, typeInfo, h1, h3]
  simp [zeroValue, typeInfo, h1, h2, ez, tabv_size]
  rw [h3, if_neg (by omega), if_neg (by omega), e]
  simp [newRow]
theorem two_at (w : World) (s r : Nat → Value) (t : TypeId) : At (w.alloc (.cells (tabv s 176 ++ tabv r 176) t)) w.heap.size 0 s 176 ∧ At (w.alloc (.cells (tabv s 176 ++ tabv r 176) t)) w.heap.size 176 r 176 := by
  refine ⟨fun j hj => ?_, fun j hj => ?_⟩
  · rw [World.cell?_alloc_new, Nat.zero_add, Array.getElem?_append_left (by rw [tabv_size]; exact hj), tabv_get _ _ _ hj]
  · rw [World.cell?_alloc_new, Array.getElem?_append_right (by rw [tabv_size]; omega), tabv_size, Nat.add_sub_cancel_left, tabv_get _ _ _ hj]
theorem ftok_A (t : List UInt8) (i : Nat) (h : t.length ≤ 60) (hi : i ≤ 10) : FtOk (ftA t i) ∧ One 4 (ftA t i) := by
  refine ⟨⟨fun o ho => ?_, fun o ho => ?_⟩, (((one_zF.upd _ _ rfl).upd _ _ rfl).upd _ _ rfl).upd _ _ rfl⟩
  · simp only [List.mem_cons, List.not_mem_nil, or_false] at ho
    rcases ho with rfl | rfl
    · exact ⟨rfl, by show InR (i : Int); unfold InR; omega⟩
    · exact ⟨rfl, by show InR 2; unfold InR; omega⟩
  · simp only [List.mem_cons, List.not_mem_nil, or_false] at ho
    rcases ho with rfl | rfl
    · exact ⟨rfl, by show t.length ≤ _; omega⟩
    · exact ⟨rfl, by show t.length ≤ _; omega⟩
theorem ftsA_ok (t : List UInt8) (h : t.length ≤ 60) (m : Nat) (hm : m ≤ 6) : ∀ (i : Nat) (g : Nat → Value), (ftsA t 0 m)[i]? = some g → FtOk g ∧ One 4 g := fun i g hg => by
  have hi := (List.getElem?_eq_some_iff.1 hg).1
  rw [ftsA_len] at hi
  rw [ftsA_get t m 0 i hi] at hg
  cases hg
  exact ftok_A t _ h (by omega)
theorem pz_S (s : Nat) (h : s ≤ 10) : Pz (cmdS s) := by
  refine ⟨((((cdok_zC.updI 0 2 (by unfold InR; decide) (by decide)).updI 133 1 (by unfold InR; decide) (by decide)).updI 134 s (by unfold InR; omega) (by decide)).updI 135 12 (by unfold InR; decide) (by decide)).updI 138 3 (by unfold InR; decide) (by decide), ((((one_zC.upd _ _ rfl).upd _ _ rfl).upd _ _ rfl).upd _ _ rfl).upd _ _ rfl, fun j h1 h2 => ?_, fun j h1 h2 => ?_⟩
  · unfold cmdS S.upd
    rw [if_neg (by omega), if_neg (by omega), if_neg (by omega), if_neg (by omega), if_neg (by omega)]
  · unfold cmdS S.upd
    rw [if_neg (by omega), if_neg (by omega), if_neg (by omega), if_neg (by omega), if_neg (by omega)]
/-- Both commands, as rows say them. -/
def csX (t : List UInt8) (m : Nat) : List Cd := [(cmdS 0, ftsA t 0 m), (cmdS 1, ftsA t 0 m)]
theorem csX_pz (t : List UInt8) (m : Nat) (hm : m ≤ 6) : ∀ (i : Nat) (c : Cd), (csX t m)[i]? = some c → Pz c.1 ∧ c.2.length ≤ 1000 := fun i c hc => by
  unfold csX at hc
  match i, hc with
  | 0, hc => cases hc; exact ⟨pz_S 0 (by omega), by show (ftsA t 0 m).length ≤ _; rw [ftsA_len]; omega⟩
  | 1, hc => cases hc; exact ⟨pz_S 1 (by omega), by show (ftsA t 0 m).length ≤ _; rw [ftsA_len]; omega⟩
/-- Commands of one's own, as a row that may be compared. -/
theorem Cmds.csz {B : Nat} {w : World} {v : Value} {gs : List (Nat → Value)} {cs : List Cd} (h : Cmds B w v gs cs) (hn : cs ≠ []) (hok : ∀ (i : Nat) (c : Cd), cs[i]? = some c → ∀ (j : Nat) (g : Nat → Value), c.2[j]? = some g → FtOk g ∧ One 4 g) :
    ∃ k cap, v = .slice (some ⟨k, 0, none⟩) cs.length cap ∧ CsZ w k (fun i => (gs.getD i zC) 173) cs := by
  obtain ⟨ad, cap, rfl, hs⟩ := h.own.shape
  rcases hs with rfl | ⟨k, rfl, h1, h2, h3⟩
  · have := h.len
    cases cs with
    | nil => exact absurd rfl hn
    | cons c t => simp at this
  · refine ⟨k, cap, by rw [h.len], h2, fun i c hc => ?_⟩
    have hi := (List.getElem?_eq_some_iff.1 hc).1
    rw [← h.len] at hi
    have hg : gs[i]? = some gs[i] := List.getElem?_eq_getElem hi
    have hd : gs.getD i zC = gs[i] := by rw [List.getD, hg]; rfl
    obtain ⟨a1, a2, a3⟩ := h.each i _ c hg hc
    obtain ⟨ad2, cap2, e2, hs2⟩ := a2.shape
    simp only [hd]
    refine ⟨fun j hj => ?_, a3 173 (by omega), ad2, cap2, e2, hok i c hc, ?_⟩
    · rw [h3 i _ hg j hj, a1 j hj]
    · exact hs2.imp id fun ⟨k2, q1, q2, q3, q4⟩ => ⟨k2, q1, q3, q4⟩
end Go.Proofs.YtepgoehpjafbhaaGreatDoor
/-
  ScriptApart: two commands as Parse tells them: their rows, each apart.
-/
namespace Go.Proofs.YtepgoehpjafbhaaGreatDoor
open Go.RowKit S
set_option linter.unusedVariables false
set_option linter.unusedSimpArgs false
/-- The rows of what Parse told: the commands in block k, their fates in x and y; all of them lie from B on. -/
structure Tw (t : List UInt8) (M B : Nat) (w : World) (k ck x cx y cy : Nat) (g0 g1 : Nat → Value) : Prop where
  oc : OwnC B w (slV k 2 ck) [g0, g1]
  ox : OwnF B w (slV x M cx) (ftsA t 0 M)
  oy : OwnF B w (slV y M cy) (ftsA t 0 M)
  kx : k ≠ x
  ky : k ≠ y
  xy : x ≠ y
  e0 : ∀ j, j < 176 → g0 j = upd (cmdS 0) 173 (slV x M cx) j
  e1 : ∀ j, j < 176 → g1 j = upd (cmdS 1) 173 (slV y M cy) j
  one0 : One 176 g0
  one1 : One 176 g1
theorem OwnC.at_ {B k n ck : Nat} {w : World} {l : List (Nat → Value)} (h : OwnC B w (slV k n ck) l) (hn : l ≠ []) : B ≤ k ∧ k < w.heap.size ∧ ∀ i g, l[i]? = some g → At w k (i * 176) g 176 := by
  obtain ⟨ad, cap, hv, hs⟩ := h.shape
  cases hv
  rcases hs with hs | ⟨q, hq, h1, h2, h3⟩
  · exact absurd hs hn
  · cases hq; exact ⟨h1, h2, h3⟩
theorem OwnF.at_ {B k n ck : Nat} {w : World} {l : List (Nat → Value)} (h : OwnF B w (slV k n ck) l) (hn : l ≠ []) : B ≤ k ∧ k < w.heap.size ∧ ∀ i g, l[i]? = some g → At w k (i * 4) g 4 := by
  obtain ⟨ad, cap, hv, hs⟩ := h.shape
  cases hv
  rcases hs with hs | ⟨q, hq, h1, h2, h3⟩
  · exact absurd hs hn
  · cases hq; exact ⟨h1, h2, h3⟩
theorem fts_ne (t : List UInt8) (m : Nat) : ftsA t 0 (m + 1) ≠ [] := fun e => by have := ftsA_len t (m + 1) 0; rw [e] at this; cases this
theorem Cmds.two {t : List UInt8} {m B : Nat} {w : World} {v : Value} {gs : List (Nat → Value)} (h : Cmds B w v gs (csX t (m + 1))) : ∃ k ck x cx y cy g0 g1, v = slV k 2 ck ∧ Tw t (m + 1) B w k ck x cx y cy g0 g1 := by
  have hl : gs.length = 2 := h.len
  obtain ⟨g0, g1, rfl⟩ : ∃ g0 g1, gs = [g0, g1] := by
    match gs, hl with
    | [a, b], _ => exact ⟨a, b, rfl⟩
  obtain ⟨a1, a2, a3⟩ := h.each 0 g0 (cmdS 0, ftsA t 0 (m + 1)) rfl rfl
  obtain ⟨b1, b2, b3⟩ := h.each 1 g1 (cmdS 1, ftsA t 0 (m + 1)) rfl rfl
  have hlen := ftsA_len t (m + 1) 0
  obtain ⟨adx, cx, hvx, hsx⟩ := a2.shape
  obtain ⟨ady, cy, hvy, hsy⟩ := b2.shape
  obtain ⟨adk, ck, rfl, hsk⟩ := h.own.shape
  simp only at hsx hsy hvx hvy
  rw [hlen] at hvx hvy
  rcases hsx with e | ⟨x, rfl, x1, x2, x3⟩
  · exact absurd e (fts_ne t m)
  rcases hsy with e | ⟨y, rfl, y1, y2, y3⟩
  · exact absurd e (fts_ne t m)
  rcases hsk with e | ⟨k, rfl, k1, k2, k3⟩
  · cases e
  have hkx := h.ap1 0 g0 x rfl (by rw [hvx]; rfl)
  have hky := h.ap1 1 g1 y rfl (by rw [hvy]; rfl)
  have hxy := h.ap2 0 1 g0 g1 x (by omega) rfl rfl (by rw [hvx]; rfl)
  refine ⟨k, ck, x, cx, y, cy, g0, g1, rfl, h.own, by have q := a2; rw [hvx] at q; exact q, by have q := b2; rw [hvy] at q; exact q, fun e => hkx (by rw [e]; rfl), fun e => hky (by rw [e]; rfl), fun e => hxy (by rw [hvy, e]; rfl), fun j hj => by rw [a1 j hj, hvx], fun j hj => by rw [b1 j hj, hvy], a3, b3⟩
/-- The rows lie as they lay where their blocks do. -/
theorem Tw.same {t : List UInt8} {M B k ck x cx y cy : Nat} {w w' : World} {g0 g1 : Nat → Value} (h : Tw t M B w k ck x cx y cy g0 g1) (hk : w'.heap[k]? = w.heap[k]?) (hx : w'.heap[x]? = w.heap[x]?) (hy : w'.heap[y]? = w.heap[y]?) : Tw t M B w' k ck x cx y cy g0 g1 :=
  ⟨h.oc.same fun q e => by cases e; exact hk, h.ox.same fun q e => by cases e; exact hx, h.oy.same fun q e => by cases e; exact hy, h.kx, h.ky, h.xy, h.e0, h.e1, h.one0, h.one1⟩
/-- .. and may be compared. -/
theorem Tw.csz {t : List UInt8} {m k x cx y cy : Nat} {w : World} {g0 g1 : Nat → Value} (ht : t.length ≤ 60) (hm : m ≤ 4) (e0 : ∀ j, j < 176 → g0 j = upd (cmdS 0) 173 (slV x (m + 1) cx) j) (e1 : ∀ j, j < 176 → g1 j = upd (cmdS 1) 173 (slV y (m + 1) cy) j)
    (hk : k < w.heap.size) (hx : x < w.heap.size) (hy : y < w.heap.size) (ak : ∀ (i : Nat) (g : Nat → Value), [g0, g1][i]? = some g → At w k (i * 176) g 176) (ax : ∀ (i : Nat) (g : Nat → Value), (ftsA t 0 (m + 1))[i]? = some g → At w x (i * 4) g 4) (ay : ∀ (i : Nat) (g : Nat → Value), (ftsA t 0 (m + 1))[i]? = some g → At w y (i * 4) g 4) :
    CsZ w k (fun i => if i = 0 then slV x (m + 1) cx else slV y (m + 1) cy) (csX t (m + 1)) := by
  have hl := ftsA_len t (m + 1) 0
  have hok := ftsA_ok t ht (m + 1) (by omega)
  refine ⟨hk, fun i c hc => ?_⟩
  match i, hc with
  | 0, hc =>
    cases hc
    exact ⟨fun j hj => by rw [ak 0 g0 rfl j hj, e0 j hj]; rfl, rfl, some ⟨x, 0, none⟩, cx, by show slV x (m + 1) cx = .slice _ (ftsA t 0 (m + 1)).length _; rw [hl], hok, .inr ⟨x, rfl, hx, ax⟩⟩
  | 1, hc =>
    cases hc
    exact ⟨fun j hj => by rw [ak 1 g1 rfl j hj, e1 j hj]; rfl, rfl, some ⟨y, 0, none⟩, cy, by show slV y (m + 1) cy = .slice _ (ftsA t 0 (m + 1)).length _; rw [hl], hok, .inr ⟨y, rfl, hy, ay⟩⟩
/-- The fate of one word. -/
def ftW (a : List UInt8) : Nat → Value := upd zF 0 (.string (bs a))
theorem one_ftW (a : List UInt8) : One 4 (ftW a) := one_zF.upd _ _ rfl
def cmK (n : Int) : Nat → Value := upd zC 0 (.int .i64 n)
theorem one_cmK (n : Int) : One 176 (cmK n) := one_zC.upd _ _ rfl
set_option maxRecDepth 100000 in
theorem builtW (T : ByteArray) : Tryz.prog.built 49 [(0, .string T)] = some #[.string T, .int .i64 0, .int .i64 0, .string ⟨#[]⟩] := by kernel_rfl
set_option maxRecDepth 100000 in
theorem builtK (n : Int) : Tryz.prog.built 40 [(0, .int .i64 n)] = some (tabv (cmK n) 176) := by kernel_rfl
end Go.Proofs.YtepgoehpjafbhaaGreatDoor
/-
  ScriptApart: a row of fates of one's own as a block, and back.
-/
namespace Go.Proofs.YtepgoehpjafbhaaGreatDoor
open Go.RowKit S
set_option linter.unusedVariables false
set_option linter.unusedSimpArgs false
theorem tabv_of (cs : Array Value) : tabv (fun j => cs[j]?.getD undef) cs.size = cs := by
  apply Array.ext
  · rw [tabv_size]
  · intro i h1 h2
    have h := tabv_get (fun j => cs[j]?.getD undef) cs.size i h2
    rw [Array.getElem?_eq_getElem h1] at h
    rw [Option.some.inj h, Array.getElem?_eq_getElem h2]
    rfl
/-- The block of a row of fates. -/
theorem OwnF.has {B k n ck : Nat} {w : World} {l : List (Nat → Value)} (h : OwnF B w (slV k n ck) l) : ∃ f, Has w k 49 f (ck * 4) ∧ l.length = n ∧ n ≤ ck ∧ (ck : Int) ≤ maxLen ∧ B ≤ k ∧ ∀ i g, l[i]? = some g → ∀ j, j < 4 → f (i * 4 + j) = g j := by
  obtain ⟨hl, ⟨he, _⟩ | ⟨g, cap, cur, he, hb, hg, h1, h2, h3, h4⟩⟩ := h
  · cases he
  · cases he
    refine ⟨fun j => cur[j]?.getD undef, ?_, rfl, h1, by omega, hb, fun i q hq j hj => ?_⟩
    · unfold Has
      rw [← h3, tabv_of]
      exact hg
    · have e := cellsF_get l i q hq j hj
      have hi := (List.getElem?_eq_some_iff.1 hq).1
      rw [← h4, List.getElem?_take_of_lt (by omega), Array.getElem?_toList] at e
      show cur[i * 4 + j]?.getD undef = q j
      rw [e]
      rfl
theorem OwnF.of_has {B k ck : Nat} {w : World} {f : Nat → Value} {l : List (Nat → Value)} (h : Has w k 49 f (ck * 4)) (hn : l.length ≤ ck) (hm : (ck : Int) ≤ maxLen) (hb : B ≤ k) (hf : ∀ i g, l[i]? = some g → ∀ j, j < 4 → f (i * 4 + j) = g j) : OwnF B w (slV k l.length ck) l := by
  refine ⟨by rw [cellsF_length], .inr ⟨k, ck, tabv f (ck * 4), rfl, hb, h, hn, by omega, tabv_size _ _, ?_⟩⟩
  apply List.ext_getElem?
  intro p
  rcases Nat.lt_or_ge p (l.length * 4) with hp | hp
  · have hi : p / 4 < l.length := by omega
    have hq : l[p / 4]? = some l[p / 4] := List.getElem?_eq_getElem hi
    have e := cellsF_get l (p / 4) _ hq (p % 4) (by omega)
    rw [show p / 4 * 4 + p % 4 = p by omega] at e
    rw [e, List.getElem?_take_of_lt hp, Array.getElem?_toList, tabv_get _ _ _ (by omega)]
    have := hf (p / 4) _ hq (p % 4) (by omega)
    rw [show p / 4 * 4 + p % 4 = p by omega] at this
    rw [this]
  · rw [List.getElem?_eq_none (by rw [List.length_take]; omega), List.getElem?_eq_none (by rw [cellsF_length]; exact hp)]
end Go.Proofs.YtepgoehpjafbhaaGreatDoor
