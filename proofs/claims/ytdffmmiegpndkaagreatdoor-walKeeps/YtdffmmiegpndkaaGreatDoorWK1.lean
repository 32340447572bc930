/-
  WALKEEPS, PLAIN: what is read of a log whose segments hold frames alone but for the last one's end.
-/
import Derived.Test.YtdffmmiegpndkaaGreatDoorWREq
import Derived.Test.YtdffmmiegpndkaaGreatDoorWREq
import Derived.Test.YtdffmmiegpndkaaGreatDoorWKNum
import Derived.Test.YtdffmmiegpndkaaGreatDoorWKNum
namespace Go.Proofs.YtdffmmiegpndkaaGreatDoor
open Go.RowKit
set_option linter.unusedVariables false
/-- A file all of which is safe. -/
def cl (t : Key) : AF := ⟨t, t, fun _ => false⟩
def nseq (n : Int) (m : Nat) : List Int := (List.range m).map fun (i : Nat) => n + (i : Int)
theorem nseq_len (n : Int) (m : Nat) : (nseq n m).length = m := by simp [nseq]
theorem nseq_succ (n : Int) (m : Nat) : nseq n (m + 1) = n :: nseq (n + 1) m := by
  unfold nseq
  rw [List.range_succ_eq_map, List.map_cons, List.map_map]
  simp only [Int.natCast_zero, Int.add_zero, List.cons.injEq, true_and]
  refine List.map_congr_left fun i _ => ?_
  simp only [Function.comp, Nat.succ_eq_add_one, Int.natCast_add, Int.natCast_one]
  omega
theorem nseq_get (n : Int) (m i : Nat) (h : i < m) : (nseq n m)[i]? = some (n + (i : Int)) := by simp [nseq, h]
theorem nseq_getD (n : Int) (m i : Nat) (h : i < m) : (nseq n m).getD i 0 = n + (i : Int) := by rw [List.getD_eq_getElem?_getD, nseq_get n m i h]; rfl
theorem nseq_consec (n : Int) (m : Nat) : consec (nseq n m) = true := by
  unfold consec
  rw [List.all_eq_true]
  intro i hi
  rw [nseq_len, List.mem_range] at hi
  rw [nseq_getD n m i hi, nseq_getD n m 0 (by omega)]
  simp
theorem framesL_append (qs : List Key) : ∀ (ps : List Key) (n : Int), framesL n (ps ++ qs) = framesL n ps ++ framesL (n + ps.length) qs
  | [], n => by simp [framesL]
  | p :: ps, n => by
    show Fr.frameL n.toNat p ++ framesL (n + 1) (ps ++ qs) = (Fr.frameL n.toNat p ++ framesL (n + 1) ps) ++ _
    rw [framesL_append qs ps (n + 1), List.append_assoc, List.length_cons, show n + 1 + (ps.length : Int) = n + ((ps.length + 1 : Nat) : Int) by omega]
theorem framesL_64 : ∀ (ps : List Key) (n : Int), (framesL n ps).length % 64 = 0
  | [], n => rfl
  | p :: ps, n => by
    show (Fr.frameL n.toNat p ++ framesL (n + 1) ps).length % 64 = 0
    rw [List.length_append, Fr.frameL_length]
    have h1 := (Fr.room_ge p.length).2.2.2
    have h2 := framesL_64 ps (n + 1)
    omega
theorem framesL_ne {ps : List Key} {n : Int} (h : ps ≠ []) : 64 ≤ (framesL n ps).length := by
  cases ps with
  | nil => exact absurd rfl h
  | cons p ps =>
    show 64 ≤ (Fr.frameL n.toNat p ++ framesL (n + 1) ps).length
    rw [List.length_append, Fr.frameL_length]
    have := (Fr.room_ge p.length).2.2.1
    omega
theorem framesL_nil {ps : List Key} {n : Int} : (framesL n ps).length = 0 ↔ ps = [] := by
  constructor
  · intro h
    refine Classical.byContradiction fun h0 => ?_
    have := framesL_ne (n := n) h0
    omega
  · rintro rfl; rfl
theorem told_fr (r : Key) : ∀ (ps : List Key) (n : Int), 0 ≤ n → n + ps.length ≤ 9223372036854775807 → (∀ p ∈ ps, p.length ≤ 65536) → Fr.Told (framesL n ps ++ r) n ps r
  | [], n, _, _, _ => rfl
  | p :: ps, n, h0, h1, h2 => by
    rw [List.length_cons] at h1
    refine ⟨⟨h0, by omega, h2 p (by simp), ?_⟩, ?_⟩
    · show _ <+: (Fr.frameL n.toNat p ++ framesL (n + 1) ps) ++ r
      rw [List.append_assoc]
      exact List.prefix_append _ _
    · show Fr.Told (((Fr.frameL n.toNat p ++ framesL (n + 1) ps) ++ r).drop _) (n + 1) ps r
      rw [List.append_assoc, List.drop_left' (Fr.frameL_length _ _)]
      exact told_fr r ps (n + 1) (by omega) (by omega) (fun q hq => h2 q (by simp [hq]))
theorem told_app {qs : List Key} {t' t'' : Key} : ∀ {ps : List Key} {t : Key} {n : Int}, Fr.Told t n ps t' → Fr.Told t' (n + ps.length) qs t'' → Fr.Told t n (ps ++ qs) t''
  | [], t, n, h, k => by
    have e : t' = t := h
    subst e
    simpa using k
  | p :: ps, t, n, h, k => by
    refine ⟨h.1, told_app h.2 ?_⟩
    rw [List.length_cons] at k
    rw [show n + 1 + (ps.length : Int) = n + ((ps.length + 1 : Nat) : Int) by omega]
    exact k
/-- Frames, and what stands behind them. -/
theorem scan_app (ps : List Key) (n : Int) (r : Key) (h0 : 0 ≤ n) (h1 : n + ps.length ≤ 9223372036854775807) (h2 : ∀ p ∈ ps, p.length ≤ 65536) : scanA (framesL n ps ++ r) n = (ps ++ (scanA r (n + ps.length)).1, (scanA r (n + ps.length)).2) := by
  have hf := scanA_found r (n + ps.length)
  refine scanA_of ⟨told_app (told_fr r ps n h0 h1 h2) hf.told, ?_⟩
  have := hf.none
  rw [List.length_append, Int.natCast_add, ← Int.add_assoc]
  exact this
theorem scan_nil (n : Int) : scanA [] n = ([], []) := rfl
theorem scan_frames (ps : List Key) (n : Int) (h0 : 0 ≤ n) (h1 : n + ps.length ≤ 9223372036854775807) (h2 : ∀ p ∈ ps, p.length ≤ 65536) : scanA (framesL n ps) n = (ps, []) := by
  have := scan_app ps n [] h0 h1 h2
  rw [List.append_nil, scan_nil, List.append_nil] at this
  exact this
theorem first_frames {ps : List Key} {n : Int} (r : Key) (h : ps ≠ []) (h0 : 0 ≤ n) (h1 : n < 1152921504606846976) : firstN (framesL n ps ++ r) = n := by
  cases ps with
  | nil => exact absurd rfl h
  | cons p ps =>
    have hp : Fr.frameL n.toNat p <+: framesL n (p :: ps) ++ r := by
      show _ <+: (Fr.frameL n.toNat p ++ framesL (n + 1) ps) ++ r
      rw [List.append_assoc]
      exact List.prefix_append _ _
    obtain ⟨_, h2, _, _, h5⟩ := Fr.frame_head hp
    have h6 := Fr.room_ge p.length
    have h7 : Fr.be (Fr.nb n.toNat 8) = n.toNat := by rw [Fr.be_nb]; exact Nat.mod_eq_of_lt (by omega)
    unfold firstN
    rw [if_neg (by omega), h2, h7, if_neg (by omega)]
    omega
/-! ### segments -/
def segsL : Int → Int → List (List Key) → List ASeg
  | _, _, [] => []
  | n, b, ps :: r => ⟨n, ((framesL b ps).length : Int), b + ps.length⟩ :: segsL (n + 1) (b + ps.length) r
def textsL : Int → List (List Key) → List Key
  | _, [] => []
  | b, ps :: r => framesL b ps :: textsL (b + ps.length) r
theorem segsL_len : ∀ (pss : List (List Key)) (n b : Int), (segsL n b pss).length = pss.length
  | [], _, _ => rfl
  | ps :: r, n, b => by simp [segsL, segsL_len r]
theorem textsL_len : ∀ (pss : List (List Key)) (b : Int), (textsL b pss).length = pss.length
  | [], _ => rfl
  | ps :: r, b => by simp [textsL, textsL_len r]
theorem textsL_append (qss : List (List Key)) : ∀ (pss : List (List Key)) (b : Int), textsL b (pss ++ qss) = textsL b pss ++ textsL (b + pss.flatten.length) qss
  | [], b => by simp [textsL]
  | ps :: r, b => by
    simp only [List.cons_append, textsL, List.flatten_cons, List.length_append]
    rw [textsL_append qss r, show b + (ps.length : Int) + (r.flatten.length : Int) = b + ((ps.length + r.flatten.length : Nat) : Int) by omega]
theorem segsL_append (qss : List (List Key)) : ∀ (pss : List (List Key)) (n b : Int), segsL n b (pss ++ qss) = segsL n b pss ++ segsL (n + pss.length) (b + pss.flatten.length) qss
  | [], n, b => by simp [segsL]
  | ps :: r, n, b => by
    simp only [List.cons_append, segsL, List.flatten_cons, List.length_append, List.length_cons]
    rw [segsL_append qss r, show b + (ps.length : Int) + (r.flatten.length : Int) = b + ((ps.length + r.flatten.length : Nat) : Int) by omega, show n + 1 + (r.length : Int) = n + ((r.length + 1 : Nat) : Int) by omega]
theorem textsL_get {pss : List (List Key)} {b : Int} {i : Nat} {ps : List Key} (h : pss[i]? = some ps) : (textsL b pss)[i]? = some (framesL (b + (pss.take i).flatten.length) ps) := by
  have hi : i < pss.length := (List.getElem?_eq_some_iff.1 h).1
  have e : pss = pss.take i ++ ps :: pss.drop (i + 1) := by
    have h1 : pss[i] = ps := (List.getElem?_eq_some_iff.1 h).2
    rw [← h1, List.getElem_cons_drop]
    simp
  have h2 : (textsL b (pss.take i)).length = i := by rw [textsL_len, List.length_take]; omega
  conv => lhs; rw [e, textsL_append]
  rw [List.getElem?_append_right (by omega), h2, Nat.sub_self]
  rfl
structure Fine (b : Int) (pss : List (List Key)) : Prop where
  b0 : 0 ≤ b
  top : b + pss.flatten.length ≤ 1152921504606846976
  small : ∀ p ∈ pss.flatten, p.length ≤ 65536
theorem Fine.take {b : Int} {pss : List (List Key)} (h : Fine b pss) (i : Nat) : Fine b (pss.take i) := by
  have e : pss.flatten = (pss.take i).flatten ++ (pss.drop i).flatten := by rw [← List.flatten_append, List.take_append_drop]
  refine ⟨h.b0, ?_, fun p hp => h.small p (by rw [e]; simp [hp])⟩
  have := h.top
  rw [e, List.length_append] at this
  omega
/-- Behind j whole segments. -/
theorem rd_pre {A : AD} {nm : Key} {n0 b : Int} {m : Nat} {pss : List (List Key)} (hm : pss.length ≤ m) (ht : ∀ (i : Nat) (ps : List Key), pss[i]? = some ps → textOf A nm (n0 + (i : Int)) = framesL (b + (pss.take i).flatten.length) ps) (hne : ∀ ps ∈ pss, ps ≠ []) (hf : Fine b pss) :
    ∀ j, j ≤ pss.length → rdK A nm ⟨[], 0, (nseq n0 m).map seg0, false⟩ j = ⟨(pss.take j).flatten, if j = 0 then 0 else b + ((pss.take j).flatten.length : Int), segsL n0 b (pss.take j) ++ (nseq (n0 + (j : Int)) (m - j)).map seg0, false⟩
  | 0, _ => by simp [rdK, segsL]
  | j + 1, hj => by
    have ih := rd_pre hm ht hne hf j (by omega)
    obtain ⟨ps, hps⟩ : ∃ ps, pss[j]? = some ps := ⟨_, List.getElem?_eq_getElem (by omega)⟩
    have htk : pss.take (j + 1) = pss.take j ++ [ps] := by rw [List.take_add_one, hps]; rfl
    have hpm : ps ∈ pss := List.mem_of_getElem? hps
    have hps0 := hne ps hpm
    have hlen : (segsL n0 b (pss.take j)).length = j := by rw [segsL_len, List.length_take]; omega
    have hq : nseq (n0 + (j : Int)) (m - j) = (n0 + (j : Int)) :: nseq (n0 + ((j + 1 : Nat) : Int)) (m - (j + 1)) := by
      rw [show m - j = (m - (j + 1)) + 1 by omega, nseq_succ, show n0 + (j : Int) + 1 = n0 + ((j + 1 : Nat) : Int) by omega]
    have hfj := hf.take (j + 1)
    rw [htk] at hfj
    have hfl : (pss.take j ++ [ps]).flatten = (pss.take j).flatten ++ ps := by simp
    have h1 := hfj.top
    have h2 := hfj.small
    rw [hfl] at h1 h2
    rw [List.length_append] at h1
    show rdStep A nm (rdK A nm _ j) j = _
    rw [ih, hq]
    unfold rdStep
    simp only [List.map_cons]
    have hg : (segsL n0 b (pss.take j) ++ seg0 (n0 + (j : Int)) :: (nseq (n0 + ((j + 1 : Nat) : Int)) (m - (j + 1))).map seg0).getD j ⟨0, 0, 0⟩ = seg0 (n0 + (j : Int)) := by
      rw [List.getD_eq_getElem?_getD, List.getElem?_append_right (by omega), hlen, Nat.sub_self]
      rfl
    rw [hg]
    simp only [seg0]
    rw [ht j ps hps]
    have hb := hf.b0
    have hnx : (if (pss.take j).flatten = [] then firstN (framesL (b + ((pss.take j).flatten.length : Int)) ps) else if j = 0 then 0 else b + ((pss.take j).flatten.length : Int)) = b + ((pss.take j).flatten.length : Int) := by
      by_cases hj0 : j = 0
      · subst hj0
        have := first_frames (n := b) [] hps0 hb (by have := ps.length; cases ps with | nil => exact absurd rfl hps0 | cons p q => simp at h1; omega)
        rw [List.append_nil] at this
        simpa using this
      · have hne0 : (pss.take j).flatten ≠ [] := by
          intro e
          have h0 : pss[0]? = some pss[0] := List.getElem?_eq_getElem (by omega)
          have hm0 : pss[0] ∈ pss.take j := List.mem_of_getElem? (i := 0) (by rw [List.getElem?_take, if_pos (by omega)]; exact h0)
          have := hne pss[0] (List.mem_of_getElem? h0)
          exact this (List.flatten_eq_nil_iff.1 e _ hm0)
        rw [if_neg hne0, if_neg hj0]
    rw [hnx, scan_frames ps _ (by omega) (by omega) (fun p hp => h2 p (by simp [hp]))]
    rw [htk, hfl, segsL_append]
    have hset : (segsL n0 b (pss.take j) ++ (⟨n0 + (j : Int), 0, 0⟩ : ASeg) :: (nseq (n0 + ((j + 1 : Nat) : Int)) (m - (j + 1))).map seg0).set j ⟨n0 + (j : Int), ((((framesL (b + ((pss.take j).flatten.length : Int)) ps).length - 0 : Nat)) : Int), b + ((pss.take j).flatten.length : Int) + (ps.length : Int)⟩ = (segsL n0 b (pss.take j) ++ segsL (n0 + ((pss.take j).length : Int)) (b + ((pss.take j).flatten.length : Int)) [ps]) ++ (nseq (n0 + ((j + 1 : Nat) : Int)) (m - (j + 1))).map seg0 := by
      rw [List.set_append_right _ _ (by omega), hlen, Nat.sub_self, List.set_cons_zero, List.append_assoc]
      simp only [segsL, List.length_take, List.cons_append, List.nil_append, Nat.sub_zero]
      rw [show min j pss.length = j by omega]
    simp only [List.length_nil] at hset ⊢
    try simp only [seg0] at hset
    rw [hset]
    simp only [List.length_append, List.isEmpty_nil, Bool.not_true, RSt.mk.injEq, and_true, true_and]
    rw [if_neg (by omega)]
    omega
/-- What is read where all but the last segment are whole. -/
theorem rd_last {A : AD} {nm : Key} {n0 b : Int} {pres : List (List Key)} {t : Key} (hn : numsL A nm = nseq n0 (pres.length + 1)) (ht : ∀ (i : Nat) (ps : List Key), pres[i]? = some ps → textOf A nm (n0 + (i : Int)) = framesL (b + (pres.take i).flatten.length) ps) (htl : textOf A nm (n0 + (pres.length : Int)) = t) (hne : ∀ ps ∈ pres, ps ≠ []) (hf : Fine b pres) {nx : Int} (hnx : nx = if pres = [] then firstN t else b + (pres.flatten.length : Int)) {r : List Key × Key} (hr : scanA t nx = r) :
    rdOf A nm = (pres.length + 1, ⟨pres.flatten ++ r.1, nx + (r.1.length : Int), segsL n0 b pres ++ [⟨n0 + (pres.length : Int), ((t.length - r.2.length : Nat) : Int), nx + (r.1.length : Int)⟩], !r.2.isEmpty⟩) := by
  have hK := rd_pre (m := pres.length + 1) (Nat.le_succ _) ht hne hf
  have hk := hK pres.length (Nat.le_refl _)
  rw [List.take_length, show pres.length + 1 - pres.length = 1 by omega] at hk
  have hlast : rdK A nm ⟨[], 0, (nseq n0 (pres.length + 1)).map seg0, false⟩ (pres.length + 1) = ⟨pres.flatten ++ r.1, nx + (r.1.length : Int), segsL n0 b pres ++ [⟨n0 + (pres.length : Int), ((t.length - r.2.length : Nat) : Int), nx + (r.1.length : Int)⟩], !r.2.isEmpty⟩ := by
    show rdStep A nm (rdK A nm _ pres.length) pres.length = _
    rw [hk]
    have h1 : nseq (n0 + (pres.length : Int)) 1 = [n0 + (pres.length : Int)] := by simp [nseq]
    rw [h1]
    unfold rdStep
    simp only [List.map_cons, List.map_nil]
    have hg : (segsL n0 b pres ++ [seg0 (n0 + (pres.length : Int))]).getD pres.length ⟨0, 0, 0⟩ = seg0 (n0 + (pres.length : Int)) := by
      rw [List.getD_eq_getElem?_getD, List.getElem?_append_right (by rw [segsL_len]; omega), segsL_len, Nat.sub_self]
      rfl
    rw [hg]
    simp only [seg0]
    rw [htl]
    have hx : (if pres.flatten = [] then firstN t else if pres.length = 0 then 0 else b + (pres.flatten.length : Int)) = nx := by
      rw [hnx]
      by_cases h0 : pres = []
      · subst h0; simp
      · have hl : pres.length ≠ 0 := fun e => h0 (List.length_eq_zero_iff.1 e)
        have hfl : pres.flatten ≠ [] := by
          intro e
          obtain ⟨ps, r, rfl⟩ := List.exists_cons_of_ne_nil h0
          exact hne ps (by simp) (List.flatten_eq_nil_iff.1 e ps (by simp))
        rw [if_neg hfl, if_neg hl, if_neg h0]
    rw [hx, hr]
    simp only [RSt.mk.injEq, true_and, and_true]
    rw [List.set_append_right _ _ (by rw [segsL_len]; omega), segsL_len, Nat.sub_self, List.set_cons_zero]
  unfold rdOf
  rw [hn, nseq_len]
  have hpre : ∀ q, 0 < q → q ≤ pres.length → (rdK A nm ⟨[], 0, (nseq n0 (pres.length + 1)).map seg0, false⟩ q).torn = false := fun q _ hq => by rw [hK q hq]
  by_cases htn : (rdK A nm ⟨[], 0, (nseq n0 (pres.length + 1)).map seg0, false⟩ (pres.length + 1)).torn = true
  · rw [rdFin_stop (Nat.lt_succ_self _) hpre htn, hlast]
  · rw [rdFin_all (fun q h0 hq => by
      by_cases e : q = pres.length + 1
      · rw [e]; simpa using htn
      · exact hpre q h0 (by omega)), hlast]
end Go.Proofs.YtdffmmiegpndkaaGreatDoor
