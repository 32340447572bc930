import Derived.Test.YtdffmmiegpndkaaGreatDoorWK5
/-
  WALKEEPS, PLAIN: Append, by the book.
-/
namespace Go.Proofs.YtdffmmiegpndkaaGreatDoor
open Go.RowKit
set_option linter.unusedVariables false
def forgedL (ls : List AFate) : Bool := ls.any fun x => decide (x.kind = 2)
/-- Behind a crash: what Open finds. -/
inductive Af (fs : FList) (first next : Int) (acked : List Key) (under : Option Key) (fg : Bool) : Prop where
  | none (n0 : Int) (h : Dk fs nmLog.data.toList n0 []) (hn : next = first) (ha : acked = []) : Af fs first next acked under fg
  | some (n0 b : Int) (pres : List (List Key)) (ps : List Key) (X : Key) (h : Bf fs nmLog.data.toList n0 b pres ps X) (hn : next = b + (pres.flatten.length : Int) + (ps.length : Int)) (lo : b ≤ first) (hi : first ≤ next)
      (ha : acked = (pres.flatten ++ ps).drop (first - b).toNat) (hx : X.length ≤ 65664)
      (hu : fg = false → X = [] ∨ ∃ p T ft, under = some p ∧ p.length ≤ 65536 ∧ next < 1152921504606846976 ∧ XOf T (Fr.frameL next.toNat p) X ft ∧ ∀ s x, ft s = some x → x.kind ≠ 2) : Af fs first next acked under fg
theorem KN.af {fs : FList} {g : AL} {sz first : Int} {acked : List Key} {n0 b : Int} {pss : List (List Key)} (h : KN fs g sz first acked n0 b pss) (u : Option Key) (fg : Bool) : Af fs first g.next acked u fg := by
  rcases List.eq_nil_or_concat pss with rfl | ⟨pres, ps, rfl⟩
  · have h1 := h.next
    have h2 := h.lo
    have h3 := h.hi
    have h4 := h.ack
    simp at h1 h4
    exact .none n0 h.dk (by omega) h4
  · rw [List.concat_eq_append] at h
    have h1 := h.next
    have hfl : (pres ++ [ps]).flatten = pres.flatten ++ ps := by simp
    rw [hfl, List.length_append] at h1
    have hne := h.ne
    rw [List.dropLast_concat] at hne
    have hd := h.dk
    rw [textsL_append] at hd
    refine .some n0 b pres ps [] ⟨by rw [List.append_nil]; exact hd, h.fine, hne⟩ (by omega) h.lo h.hi (by rw [h.ack, hfl]) (by simp) (fun _ => .inl rfl)
/-- What the book says while the power is off within an Append. -/
structure KW (A : AD) (g : AL) (first : Int) (acked : List Key) (under : Key) : Prop where
  off : A.pow.off = true
  opn : A.pow.opn = true
  dead : g.dead = true
  crash : ∀ ls, ∃ fs', (A.crash ls).on = ⟨A.cap, fs', p0⟩ ∧ Af fs' first g.next acked (some under) (forgedL ls)
theorem map_fset (g : Key → AF → AF) (k : Key) (F : AF) : ∀ fs : FList, (fset fs k F).map (fun p => (p.1, g p.1 p.2)) = fset (fs.map (fun p => (p.1, g p.1 p.2))) k (g k F)
  | [] => rfl
  | p :: r => by
    rw [fset_cons, List.map_cons, List.map_cons, fset_cons, map_fset g k F r]
    by_cases e : p.1 = k
    · simp only [if_pos e]; rw [e]
    · simp only [if_neg e]
theorem map_fdel (g : Key → AF → AF) (k : Key) : ∀ fs : FList, (fdel fs k).map (fun p => (p.1, g p.1 p.2)) = fdel (fs.map (fun p => (p.1, g p.1 p.2))) k
  | [] => rfl
  | p :: r => by
    have ih := map_fdel g k r
    unfold fdel at ih ⊢
    rw [List.map_cons, List.filter_cons, List.filter_cons]
    split
    · rw [List.map_cons, ih]
    · exact ih
theorem map_fins (g : Key → AF → AF) (k : Key) (F : AF) : ∀ fs : FList, (fins (k, F) fs).map (fun p => (p.1, g p.1 p.2)) = fins (k, g k F) (fs.map (fun p => (p.1, g p.1 p.2)))
  | [] => rfl
  | p :: r => by
    rw [List.map_cons]
    unfold fins
    simp only
    split
    · rfl
    · rw [List.map_cons, map_fins g k F r]
theorem map_putF (g : Key → AF → AF) (fh : Bool) (k : Key) (F : AF) (fs : FList) : (putF fs fh k F).map (fun p => (p.1, g p.1 p.2)) = putF (fs.map (fun p => (p.1, g p.1 p.2))) fh k (g k F) := by
  unfold putF
  split
  · unfold fput; rw [map_fins, map_fdel]
  · exact map_fset g k F fs
theorem Dk.add {fs : FList} {nm : Key} {n0 : Int} {ts : List Key} (h : Dk fs nm n0 ts) (hn : n0 + (ts.length : Int) ≤ 9999999) (t : Key) : Dk (fput fs (fileL nm (n0 + (ts.length : Int))) (cl t)) nm n0 (ts ++ [t]) := by
  have hl := h.lo
  refine ⟨hl, by rw [List.length_append, List.length_singleton]; omega, fun x h0 h1 hx => ?_, fun i u hu => ?_, fun p hp => ?_⟩
  · rw [List.length_append, List.length_singleton]
    by_cases e : x = n0 + (ts.length : Int)
    · omega
    · rw [fget_fput_ne (fun e2 => e (fileL_inj h0 h1 (by omega) (by omega) e2))] at hx
      have := h.mem x h0 h1 hx
      omega
  · by_cases e : i = ts.length
    · subst e
      rw [List.getElem?_append_right (Nat.le_refl _), Nat.sub_self] at hu
      cases hu
      exact fget_fput_same
    · have hi : i < ts.length := by
        have := (List.getElem?_eq_some_iff.1 hu).1
        rw [List.length_append, List.length_singleton] at this
        omega
      rw [List.getElem?_append_left hi] at hu
      rw [fget_fput_ne (fun e2 => e (by have := fileL_inj (by omega) (by omega) (by omega) (by omega) e2; omega))]
      exact h.txt i u hu
  · unfold fput at hp
    rcases mem_fins.1 hp with rfl | hq
    · exact ⟨t, rfl⟩
    · exact h.all p (List.mem_filter.1 hq).1
theorem Dk.none {fs : FList} {nm : Key} {n0 : Int} (h : Dk fs nm n0 []) (n1 : Int) (h0 : 0 ≤ n1) (h1 : n1 ≤ 10000000) : Dk fs nm n1 [] :=
  ⟨h0, by simpa using h1, fun x a b c => by have := h.mem x a b c; simp at this; omega, fun i t hi => by simp at hi, h.all⟩
theorem spot_dk {fs : FList} {g : AL} {n n0 b n1 : Int} {pss pres : List (List Key)} {ps : List Key} {fh : Bool} (hd : Dk fs nmLog.data.toList n0 (textsL b pss)) (h : Spot fs g n n0 b pss n1 pres ps fh) (hn : n1 + (pres.length : Int) ≤ 9999999) :
    ((fh = false ∧ fget fs (fileL nmLog.data.toList (n1 + (pres.length : Int))) = some (cl (framesL (b + (pres.flatten.length : Int)) ps))) ∨ (fh = true ∧ fget fs (fileL nmLog.data.toList (n1 + (pres.length : Int))) = none ∧ framesL (b + (pres.flatten.length : Int)) ps = [])) ∧
    ∀ Y, Dk (putF fs fh (fileL nmLog.data.toList (n1 + (pres.length : Int))) (cl Y)) nmLog.data.toList n1 (textsL b pres ++ [Y]) := by
  rcases h.file with ⟨rfl, rfl, rfl⟩ | ⟨rfl, rfl, rfl, e1, e2⟩
  · rw [textsL_append] at hd
    refine ⟨.inl ⟨rfl, ?_⟩, fun Y => ?_⟩
    · refine hd.txt pres.length _ ?_
      rw [List.getElem?_append_right (by rw [textsL_len]; omega), textsL_len, Nat.sub_self]
      rfl
    · have := hd.set Y
      rw [textsL_len] at this
      unfold putF
      rw [if_neg (by simp)]
      exact this
  · have hd1 : Dk fs nmLog.data.toList n1 (textsL b pss) := by
      by_cases h0 : pss = []
      · rw [e2 h0]
        subst h0
        exact hd.none 0 (by omega) (by omega)
      · rw [e1 h0]; exact hd
    have hlo := hd1.lo
    refine ⟨.inr ⟨rfl, ?_, rfl⟩, fun Y => ?_⟩
    · cases hg : fget fs (fileL nmLog.data.toList (n1 + (pss.length : Int))) with
      | none => rfl
      | some F =>
        have := hd1.mem (n1 + (pss.length : Int)) (by omega) hn (by rw [hg]; rfl)
        rw [textsL_len] at this
        omega
    · have := hd1.add (by rw [textsL_len]; exact hn) Y
      rw [textsL_len] at this
      unfold putF
      rw [if_pos rfl]
      exact this
theorem frameS_list {X : Int} {t : ByteArray} (h : Fr.frameE X t = 0) : (Fr.frameS X t).data.toList = Fr.frameL X.toNat t.data.toList ∧ 0 ≤ X ∧ t.size ≤ 65536 := by
  unfold Fr.frameE at h
  unfold Fr.frameS
  split at h
  · cases h
  · rename_i h1
    split at h
    · cases h
    · rename_i h2
      rw [if_neg h1, if_neg h2]
      exact ⟨by simp, by omega, by omega⟩
/-- Append, by the book. -/
theorem app_kn {A : AD} {g : AL} {sz first : Int} {acked : List Key} {n0 b : Int} {pss : List (List Key)} (hok : A.Ok) (hoff : A.pow.off = false) (hopn : A.pow.opn = false) (h : KN A.fs g sz first acked n0 b pss) (t : ByteArray) {R : Int × AD × AL} (hR : appA A g t = R) :
    (R.1 = 0 ∧ R.2.1.pow.off = false ∧ R.2.1.pow.opn = false ∧ R.2.2.next = g.next + 1 ∧ ∃ n0' pss', KN R.2.1.fs R.2.2 sz first (acked ++ [t.data.toList]) n0' b pss') ∨
    (R.1 = 9 ∧ R.2.2.next = g.next ∧ t.size ≤ 65536 ∧ KW R.2.1 R.2.2 first acked t.data.toList ∧ R.2.2 = { g with dead := true }) ∨
    (R.1 ≠ 0 ∧ R.1 ≠ 9 ∧ R.2.1.pow.off = false ∧ R.2.1.pow.opn = false ∧ (t.size ≤ 65536 ∨ R.1 = 3) ∧ R.2.2 = g ∧ R.2.1.fs = A.fs) := by
  subst hR
  have hb0 := h.fine.b0
  have hnx := h.next
  unfold appA
  rw [if_neg (by rw [h.dead]; simp)]
  by_cases hE : Fr.frameE g.next t = 0
  · rw [if_neg (by rw [hE]; simp)]
    simp only
    obtain ⟨hfs, _, htz⟩ := frameS_list hE
    have hlen : t.data.toList.length ≤ 65536 := by rw [str_len]; exact htz
    obtain ⟨n1, pres, ps, fh, hsp⟩ := place_kn h (Fr.frameS g.next t).size
    by_cases hfull : 1152921504606846976 ≤ g.next ∨ 9999999 < (placeA g (Fr.frameS g.next t).size).1.num
    · rw [if_pos hfull]
      exact .inr (.inr ⟨(by decide : (6 : Int) ≠ 0), (by decide : (6 : Int) ≠ 9), hoff, hopn, .inl htz, rfl, rfl⟩)
    · rw [if_neg hfull, hfs]
      rw [hsp.num] at hfull
      have hnum : n1 + (pres.length : Int) ≤ 9999999 := by omega
      have hn60 : g.next < 1152921504606846976 := by omega
      obtain ⟨hfile, hdk⟩ := spot_dk h.dk hsp hnum
      have hnext : g.next = b + (pres.flatten.length : Int) + (ps.length : Int) := by
        rw [hnx]
        rcases hsp.file with ⟨_, e, _⟩ | ⟨_, e, e2, _⟩
        · rw [e]; simp; omega
        · rw [e, e2]; simp
      have hfl : pss.flatten = pres.flatten ++ ps := by
        rcases hsp.file with ⟨_, e, _⟩ | ⟨_, e, e2, _⟩
        · rw [e]; simp
        · rw [e, e2]; simp
      have hfrl := Fr.frameL_length g.next.toNat t.data.toList
      have hrm := Fr.room_ge t.data.toList.length
      have hT64 := framesL_64 ps (b + (pres.flatten.length : Int))
      have hx : (Fr.frameS g.next t).size = (Fr.frameL g.next.toNat t.data.toList).length := by rw [← hfs, str_len]
      have hfine : Fine b (pres ++ [ps]) := by
        have := h.fine
        refine ⟨this.b0, ?_, fun p hp => this.small p (by rw [hfl]; simpa using hp)⟩
        have h1 := this.top
        rw [hfl] at h1
        simpa using h1
      obtain ⟨P, hc⟩ := lay_cases (g := g) (s := (placeA g (Fr.frameS g.next t).size).1) (fresh := (placeA g (Fr.frameS g.next t).size).2) (T := framesL (b + (pres.flatten.length : Int)) ps) (fr := Fr.frameL g.next.toNat t.data.toList) (f := fileL nmLog.data.toList (n1 + (pres.length : Int))) hok hoff hopn (by rw [h.name, hsp.num]) hsp.size hT64 (by rw [hfrl]; omega) (by rw [hsp.fresh]; exact hfile)
      rw [hsp.fresh] at hc
      rw [hsp.fresh]
      have hcrashW : ∀ ls, ∃ fs', ((⟨A.cap, putF A.fs fh (fileL nmLog.data.toList (n1 + (pres.length : Int))) (wr (framesL (b + (pres.flatten.length : Int)) ps) (Fr.frameL g.next.toNat t.data.toList)), P⟩ : AD).pow.off = true → P.opn = true → ((⟨A.cap, putF A.fs fh (fileL nmLog.data.toList (n1 + (pres.length : Int))) (wr (framesL (b + (pres.flatten.length : Int)) ps) (Fr.frameL g.next.toNat t.data.toList)), P⟩ : AD).crash ls).on = ⟨A.cap, fs', p0⟩) ∧ Af fs' first g.next acked (some t.data.toList) (forgedL ls) := fun ls => by
        obtain ⟨X, hX, hxo⟩ := crash_wr (framesL (b + (pres.flatten.length : Int)) ps) (Fr.frameL g.next.toNat t.data.toList) hT64 (by rw [hfrl]; exact hrm.2.2.2) (by rw [hfrl]; omega) (fateOf ls (fileL nmLog.data.toList (n1 + (pres.length : Int))))
        refine ⟨putF A.fs fh (fileL nmLog.data.toList (n1 + (pres.length : Int))) (cl (framesL (b + (pres.flatten.length : Int)) ps ++ X)), fun ho hp => ?_, ?_⟩
        · have e : (⟨A.cap, putF A.fs fh (fileL nmLog.data.toList (n1 + (pres.length : Int))) (wr (framesL (b + (pres.flatten.length : Int)) ps) (Fr.frameL g.next.toNat t.data.toList)), P⟩ : AD).crash ls = ⟨A.cap, putF A.fs fh (fileL nmLog.data.toList (n1 + (pres.length : Int))) (cl (framesL (b + (pres.flatten.length : Int)) ps ++ X)), ⟨true, false, 0, 0, 0⟩⟩ := by
            unfold AD.crash
            rw [if_neg (fun hh => by rw [hp] at hh; cases hh.2)]
            simp only
            rw [map_putF (fun k F => F.crash (fateOf ls k)), crash_cl h.dk.all, hX]
          rw [e]
          rfl
        · refine .some n1 b pres ps X ⟨hdk _, hfine, hsp.ne⟩ hnext h.lo h.hi (by rw [h.ack, hfl]) ?_ (fun hfg => .inr ⟨t.data.toList, _, _, rfl, hlen, hn60, hxo, fun s x hs => ?_⟩)
          · have := hxo.le
            rw [hfrl] at this
            omega
          · unfold fateOf at hs
            have hm := List.mem_of_find?_eq_some hs
            unfold forgedL at hfg
            rw [List.any_eq_false] at hfg
            have := hfg x hm
            simpa using this
      rcases hc with ⟨e, e0, e9, p1, p2, hl⟩ | ⟨p1, p2, hl⟩ | ⟨p1, p2, hl⟩ | ⟨p1, p2, hl⟩
      · rw [hl]
        refine .inr (.inr ⟨?_, ?_, ?_, ?_, .inl htz, ?_, ?_⟩)
        all_goals simp only [ne_eq, e0, not_false_eq_true, if_true]
        · exact e9
        · exact p1
        · exact p2
        · have hd := h.dead
          cases g
          simp only at hd
          subst hd
          rfl
      · rw [hl]
        refine .inr (.inl ⟨?_, ?_, htz, ?_, ?_⟩)
        all_goals simp only [ne_eq, (by decide : ¬ ((9 : Int) = 0)), not_false_eq_true, if_true]
        refine ⟨p1, p2, rfl, fun ls => ⟨A.fs, back_cl (A := ⟨A.cap, A.fs, P⟩) h.dk.all (fun _ => p2) ls, h.af _ _⟩⟩
      · rw [hl]
        refine .inr (.inl ⟨?_, ?_, htz, ?_, ?_⟩)
        all_goals simp only [ne_eq, (by decide : ¬ ((9 : Int) = 0)), not_false_eq_true, if_true]
        refine ⟨p1, p2, rfl, fun ls => ?_⟩
        obtain ⟨fs', h1, h2⟩ := hcrashW ls
        exact ⟨fs', h1 p1 p2, h2⟩
      · rw [hl]
        have hframe : framesL (b + (pres.flatten.length : Int)) ps ++ Fr.frameL g.next.toNat t.data.toList = framesL (b + (pres.flatten.length : Int)) (ps ++ [t.data.toList]) := by
          rw [framesL_append, ← hnext]
          show _ = _ ++ (Fr.frameL g.next.toNat t.data.toList ++ [])
          rw [List.append_nil]
        refine .inl ⟨?_, ?_, ?_, ?_, n1, pres ++ [ps ++ [t.data.toList]], ?_⟩
        all_goals simp only [ne_eq, not_true_eq_false, if_false]
        · exact p1
        · exact p2
        · have hflat : (pres ++ [ps ++ [t.data.toList]]).flatten = pres.flatten ++ ps ++ [t.data.toList] := by simp
          have hd2 := hdk (framesL (b + (pres.flatten.length : Int)) (ps ++ [t.data.toList]))
          rw [hframe]
          have hlo := h.lo
          have hhi := h.hi
          refine ⟨by rw [textsL_append]; exact hd2, ⟨hb0, ?_, fun p hp => ?_⟩, ?_, h.name, h.room, h.dead, ?_, ?_, h.lo, by simp only; omega, ?_⟩
          · rw [hflat, List.length_append, List.length_append, List.length_singleton]; omega
          · rw [hflat] at hp
            rcases List.mem_append.1 hp with hp | hp
            · exact h.fine.small p (by rw [hfl]; exact hp)
            · rw [List.mem_singleton] at hp; rw [hp]; exact hlen
          · rw [List.dropLast_concat]; exact hsp.ne
          · simp only; rw [hflat, List.length_append, List.length_append, List.length_singleton]; omega
          · simp only
            rw [segsL_append]
            have hlast : segsL (n1 + (pres.length : Int)) (b + (pres.flatten.length : Int)) [ps ++ [t.data.toList]] = [⟨n1 + (pres.length : Int), ((framesL (b + (pres.flatten.length : Int)) (ps ++ [t.data.toList])).length : Int), g.next + 1⟩] := by
              simp only [segsL, List.length_append, List.length_singleton]
              rw [show b + (pres.flatten.length : Int) + ((ps.length + 1 : Nat) : Int) = g.next + 1 by omega]
            rw [hlast]
            have hsize : (placeA g (Fr.frameS g.next t).size).1.size + ((Fr.frameS g.next t).size : Int) = ((framesL (b + (pres.flatten.length : Int)) (ps ++ [t.data.toList])).length : Int) := by
              rw [hsp.size, hx, ← hframe, List.length_append]
              omega
            have hseg : (⟨(placeA g (Fr.frameS g.next t).size).1.num, (placeA g (Fr.frameS g.next t).size).1.size + ((Fr.frameS g.next t).size : Int), g.next + 1⟩ : ASeg) = ⟨n1 + (pres.length : Int), ((framesL (b + (pres.flatten.length : Int)) (ps ++ [t.data.toList])).length : Int), g.next + 1⟩ := by rw [hsize, hsp.num]
            rw [hseg]
            unfold keepA
            rcases hsp.file with ⟨e1, e2, e3⟩ | ⟨e1, e2, e3, e4, e5⟩
            · rw [if_neg (by rw [e1]; simp)]
              subst e2 e3
              have hs := h.segs
              have hl := hs.len
              rw [segsL_append] at hs
              rw [segsL_len, List.length_append, List.length_singleton] at hl
              have := hs.set ⟨n1 + (pres.length : Int), ((framesL (b + (pres.flatten.length : Int)) (ps ++ [t.data.toList])).length : Int), g.next + 1⟩ (g.segs.length - 1)
              rw [List.set_append_right _ _ (by rw [segsL_len]; omega), segsL_len, hl, show pres.length + 1 - 1 - pres.length = 0 by omega] at this
              rw [hl]
              exact this
            · rw [if_pos e1]
              subst e2
              refine SegsEq.snoc ?_ (SegEq.refl _)
              by_cases h0 : pss = []
              · subst h0
                have hs := h.segs
                exact hs
              · rw [e4 h0]; exact h.segs
          · rw [hflat, h.ack, hfl]
            exact (List.drop_append_of_le_length (by rw [List.length_append]; omega)).symm
  · rw [if_pos hE]
    have h3 : Fr.frameE g.next t = 3 := by
      unfold Fr.frameE at hE ⊢
      rw [if_neg (by omega)] at hE ⊢
      split at hE
      · rename_i hq; rw [if_pos hq]
      · exact absurd rfl hE
    refine .inr (.inr ⟨hE, by simp only; rw [h3]; decide, hoff, hopn, .inr h3, rfl, rfl⟩)
end Go.Proofs.YtdffmmiegpndkaaGreatDoor
/-
  WALKEEPS, PLAIN: Open behind a crash, by the book; Reset.
-/
namespace Go.Proofs.YtdffmmiegpndkaaGreatDoor
open Go.RowKit
set_option linter.unusedVariables false
theorem told_small : ∀ {ps : List Key} {t t' : Key} {n : Int}, Fr.Told t n ps t' → ∀ p ∈ ps, p.length ≤ 65536
  | [], _, _, _, _, p, hp => by cases hp
  | q :: ps, t, t', n, h, p, hp => by
    rcases List.mem_cons.1 hp with rfl | hp
    · exact h.1.2.2.1
    · exact told_small h.2 p hp
/-- What Open tells, against the book. -/
structure Re (fs9 : FList) (g' : AL) (sz first next : Int) (acked pay : List Key) (under : Option Key) (fg : Bool) : Prop where
  kn : ∃ n0 b pss, KN fs9 g' sz first pay n0 b pss
  nx : g'.next = first + (pay.length : Int)
  le : g'.next ≤ next + 1100
  more : ∃ m, pay = acked ++ m ∧ (fg = false → m = [] ∨ ∃ p' p, m = [p'] ∧ under = some p ∧ ∃ K, Lost p' p K)
theorem open_go {A : AD} {sz first : Int} (hoff : A.pow.off = false) (h1 : 64 ≤ sz) (h2 : sz ≤ 1048576) (h3 : 0 ≤ first) (h4 : first ≤ 1152921504606846976) : openA A nmLog sz first = (let Z := loadA A ⟨nmLog, sz, [], 0, false⟩ first; if Z.2.1 ≠ 0 then ⟨none, [], Z.2.1, Z.2.2.1⟩ else ⟨some Z.2.2.2, Z.1, 0, Z.2.2.1⟩) := by
  have hl : lnameOk nmLog.data.toList = true := by decide +kernel
  unfold openA
  rw [if_neg (by rw [hl]; simp; omega), if_neg (by rw [hoff]; simp)]
theorem open_af {cap f : Int} {fs : FList} {sz first next : Int} {acked : List Key} {under : Option Key} {fg : Bool} (hok : AD.Ok ⟨cap, fs, ⟨false, false, 0, 0, f⟩⟩) (hf : 0 ≤ f) (h : Af fs first next acked under fg) (h1 : 64 ≤ sz) (h2 : sz ≤ 1048576) (h3 : 0 ≤ first) (h4 : first ≤ next) (h5 : next + 2000 ≤ 1152921504606846976) :
    (openA ⟨cap, fs, ⟨false, false, 0, 0, f⟩⟩ nmLog sz first = ⟨none, [], 60, ⟨cap, fs, ⟨false, false, 0, 0, f⟩⟩⟩ ∧ fg = true ∧ acked = []) ∨
    (∃ fs9 g' pay, Re fs9 g' sz first next acked pay under fg ∧ ((∃ f', 0 ≤ f' ∧ f' ≤ f ∧ openA ⟨cap, fs, ⟨false, false, 0, 0, f⟩⟩ nmLog sz first = ⟨some g', pay, 0, ⟨cap, fs9, ⟨false, false, 0, 0, f'⟩⟩⟩) ∨
      (f ≠ 0 ∧ openA ⟨cap, fs, ⟨false, false, 0, 0, f⟩⟩ nmLog sz first = ⟨none, [], 9, ⟨cap, fs9, ⟨true, true, 0, 0, 0⟩⟩⟩))) := by
  have hgo := open_go (A := ⟨cap, fs, ⟨false, false, 0, 0, f⟩⟩) (sz := sz) (first := first) rfl h1 h2 h3 (by omega)
  rcases h with ⟨n0, hd, hn, ha⟩ | ⟨n0, b, pres, ps, X, hb, hn, lo, hi, ha, hx, hu⟩
  · refine .inr ⟨fs, ⟨nmLog, sz, [], first, false⟩, [], ⟨⟨n0, first, [], ?_⟩, by simp, by simp only; omega, [], by rw [ha]; rfl, fun _ => .inl rfl⟩, .inl ⟨f, hf, Int.le_refl _, ?_⟩⟩
    · exact ⟨hd, ⟨h3, by simp; omega, fun p hp => by simp at hp⟩, fun q hq => by simp at hq, rfl, rfl, rfl, by simp, .nil, Int.le_refl _, Int.le_refl _, by simp⟩
    · rw [hgo]
      simp only
      rw [load_none hok hd]
      simp
  · obtain ⟨N, hN⟩ : ∃ N, behindN b pres ps X = N := ⟨_, rfl⟩
    obtain ⟨r, hr⟩ : ∃ r, scanA X N = r := ⟨_, rfl⟩
    obtain ⟨PAY, hPAY⟩ : ∃ P, P = pres.flatten ++ (ps ++ r.1) := ⟨_, rfl⟩
    obtain ⟨NX, hNX⟩ : ∃ x, x = if PAY = [] then first else N + (r.1.length : Int) := ⟨_, rfl⟩
    obtain ⟨fs9, hfs9⟩ : ∃ x, x = fset fs (fileL nmLog.data.toList (n0 + (pres.length : Int))) (cl (framesL (b + (pres.flatten.length : Int)) ps ++ framesL N r.1)) := ⟨_, rfl⟩
    obtain ⟨SEGS, hSEGS⟩ : ∃ x, x = segsL n0 b pres ++ [⟨n0 + (pres.length : Int), (((framesL (b + (pres.flatten.length : Int)) ps).length + (X.length - r.2.length) : Nat) : Int), N + (r.1.length : Int)⟩] := ⟨_, rfl⟩
    have hld := load_bf hok hf hb hN hr sz first ⟨hPAY, hNX, hfs9, hSEGS⟩
    have hfound := scanA_found X N
    rw [hr] at hfound
    have hfew : 64 * r.1.length ≤ X.length := by have := @scan_few' X N; rw [hr] at this; exact this
    have hle2 : r.2.length ≤ X.length := by have := hfound.told.suffix.2; omega
    have hcut := cut_text2 hr
    have hsmall := told_small hfound.told
    have hb0 := hb.fine.b0
    have hrange : r.1 ≠ [] → 0 ≤ N := fun e => (hfound.told.range e).1
    have hdk := hb.dk.set (framesL (b + (pres.flatten.length : Int)) ps ++ framesL N r.1)
    rw [textsL_len, ← hfs9] at hdk
    have hfl9 : (pres ++ [ps ++ r.1]).flatten = PAY := by rw [hPAY]; simp
    have hszl : (framesL (b + (pres.flatten.length : Int)) ps).length + (X.length - r.2.length) = (framesL (b + (pres.flatten.length : Int)) ps ++ framesL N r.1).length := by
      rw [List.length_append, ← hcut, List.length_take]
      omega
    -- what is told, where it goes
    have key : ¬ (first < NX - PAY.length ∨ NX < first) → Re fs9 ⟨nmLog, sz, SEGS, NX, false⟩ sz first next acked (PAY.drop (first - (NX - PAY.length)).toNat) under fg := by
      intro hgood
      by_cases hc : pres = [] ∧ ps = []
      · obtain ⟨rfl, rfl⟩ := hc
        have eN : N = firstN X := by rw [← hN]; unfold behindN; rw [if_pos ⟨rfl, rfl⟩]
        simp only [List.flatten_nil, List.nil_append, List.length_nil, Int.natCast_zero, Int.add_zero] at hn hPAY ha hSEGS hdk hszl hfl9
        have e1 : first = next := by omega
        by_cases h0 : r.1 = []
        · have hP0 : PAY = [] := by rw [hPAY, h0]
          have hX0 : NX = first := by rw [hNX, if_pos hP0]
          rw [hP0]
          simp only [List.drop_nil]
          refine ⟨⟨n0, first, [[]], ?_⟩, by simp only; rw [hX0]; simp, by simp only; omega, [], by rw [ha]; simp, fun _ => .inl rfl⟩
          rw [h0] at hdk hszl
          refine ⟨hdk, ⟨h3, by simp; omega, fun p hp => by simp at hp⟩, fun q hq => by simp at hq, rfl, rfl, rfl, by simp only; rw [hX0]; simp, ?_, Int.le_refl _, by simp only; omega, by simp⟩
          simp only
          rw [hSEGS]
          refine .cons ⟨by simp, ?_, ?_⟩ .nil
          · simp only [framesL, List.length_nil, List.append_nil] at hszl ⊢
            omega
          · intro hne
            exfalso
            apply hne
            simp only [framesL, List.length_nil, List.append_nil] at hszl ⊢
            omega
        · have hP0 : PAY ≠ [] := by rw [hPAY]; exact h0
          have hX0 : NX = N + (r.1.length : Int) := by rw [hNX, if_neg hP0]
          have hlp : PAY.length = r.1.length := by rw [hPAY]
          have hN0 := hrange h0
          rw [hX0, hlp] at hgood
          rw [hX0, hlp, show N + (r.1.length : Int) - (r.1.length : Int) = N by omega]
          refine ⟨⟨n0, N, [r.1], ?_⟩, ?_, ?_, PAY.drop (first - N).toNat, by rw [ha]; simp, fun hfg => ?_⟩
          · have hfl1 : ([r.1] : List (List Key)).flatten = PAY := by rw [hPAY]; simp
            refine ⟨?_, ⟨hN0, by rw [hfl1, hlp]; omega, fun p hp => hsmall p (by simpa using hp)⟩, fun q hq => by simp at hq, rfl, rfl, rfl, by simp only; rw [hfl1, hlp], ?_, by omega, by simp only; omega, by rw [hfl1]⟩
            · exact hdk
            · simp only
              rw [hSEGS]
              refine .cons ⟨by simp, ?_, fun _ => by simp⟩ .nil
              simp only [framesL, List.length_nil, List.nil_append] at hszl ⊢
              omega
          · simp only; rw [List.length_drop, hlp]; omega
          · simp only; omega
          · rcases hu hfg with rfl | ⟨p, T, ft, hup, hpl, hn60, hxo, hk⟩
            · exact absurd (by rw [← hr]; rfl) h0
            · rcases scan_x hpl (by omega) hxo hk N with e | ⟨em, _, p', ep, hlost⟩
              · rw [hr] at e; rw [e] at h0; exact absurd rfl h0
              · rw [hr] at ep
                right
                have e2 : first - N = 0 := by omega
                rw [e2, hPAY, ep]
                exact ⟨p', p, rfl, hup, _, hlost⟩
      · have eN : N = next := by rw [← hN, hn]; unfold behindN; rw [if_neg hc]
        have hP0 : PAY ≠ [] := by
          intro e
          rw [hPAY, List.append_eq_nil_iff, List.append_eq_nil_iff] at e
          refine hc ⟨?_, e.2.1⟩
          rcases pres with _ | ⟨q, l⟩
          · rfl
          · exact absurd (List.flatten_eq_nil_iff.1 e.1 q (by simp)) (hb.ne q (by simp))
        have hX0 : NX = N + (r.1.length : Int) := by rw [hNX, if_neg hP0]
        have hlp : PAY.length = pres.flatten.length + (ps.length + r.1.length) := by rw [hPAY, List.length_append, List.length_append]
        have hbase : NX - (PAY.length : Int) = b := by rw [hX0, hlp]; omega
        rw [hbase] at hgood ⊢
        have hdrop : PAY.drop (first - b).toNat = acked ++ r.1 := by
          rw [hPAY, ← List.append_assoc, ha]
          exact List.drop_append_of_le_length (by rw [List.length_append]; omega)
        rw [hdrop]
        have hal : (acked.length : Int) = next - first := by rw [ha, List.length_drop, List.length_append]; omega
        refine ⟨⟨n0, b, pres ++ [ps ++ r.1], ?_⟩, ?_, ?_, r.1, rfl, fun hfg => ?_⟩
        · refine ⟨?_, ⟨hb0, by rw [hfl9, hlp]; omega, fun p hp => ?_⟩, by rw [List.dropLast_concat]; exact hb.ne, rfl, rfl, rfl, by simp only; rw [hfl9, hX0, hlp]; omega, ?_, lo, by simp only; omega, by rw [hfl9, hdrop]⟩
          · rw [textsL_append]
            simp only [textsL]
            rw [framesL_append, ← hn, ← eN]
            exact hdk
          · rw [hfl9, hPAY, ← List.append_assoc] at hp
            rcases List.mem_append.1 hp with hp | hp
            · exact hb.fine.small p (by simpa using hp)
            · exact hsmall p hp
          · simp only
            rw [hSEGS, segsL_append]
            refine SegsEq.snoc (SegsEq.refl _) ⟨rfl, ?_, fun _ => ?_⟩
            · simp only
              rw [framesL_append, ← hn, ← eN]
              omega
            · simp only [List.length_append]
              omega
        · simp only; rw [List.length_append, hX0]; omega
        · simp only; omega
        · rcases hu hfg with rfl | ⟨p, T, ft, hup, hpl, hn60, hxo, hk⟩
          · left; rw [← hr]; rfl
          · rcases scan_x hpl (by omega) hxo hk N with e | ⟨em, _, p', ep, hlost⟩
            · rw [hr] at e; left; rw [e]
            · rw [hr] at ep
              right
              rw [ep]
              exact ⟨p', p, rfl, hup, _, hlost⟩
    rcases hld with ⟨hbad, g, hl⟩ | ⟨hgood, hl⟩
    · left
      rw [hgo]
      simp only
      rw [hl]
      simp only
      rw [if_pos (by decide)]
      refine ⟨rfl, ?_⟩
      by_cases hc : pres = [] ∧ ps = []
      · obtain ⟨rfl, rfl⟩ := hc
        simp only [List.flatten_nil, List.nil_append, List.length_nil, Int.natCast_zero, Int.add_zero] at hn hPAY ha
        refine ⟨?_, by rw [ha]; simp⟩
        have h0 : r.1 ≠ [] := by
          intro h0
          have hP0 : PAY = [] := by rw [hPAY, h0]
          rw [hNX, if_pos hP0, hP0] at hbad
          simp at hbad
        have hP0 : PAY ≠ [] := by rw [hPAY]; exact h0
        rw [hNX, if_neg hP0, hPAY] at hbad
        refine Classical.byContradiction fun hfg => ?_
        rcases hu (by simpa using hfg) with rfl | ⟨p, T, ft, hup, hpl, hn60, hxo, hk⟩
        · exact absurd (by rw [← hr]; rfl) h0
        · rcases scan_x hpl (by omega) hxo hk N with e | ⟨em, _, p', ep, hlost⟩
          · rw [hr] at e; rw [e] at h0; exact absurd rfl h0
          · rw [hr] at ep
            rw [ep] at hbad
            simp at hbad
            omega
      · exfalso
        have eN : N = next := by rw [← hN, hn]; unfold behindN; rw [if_neg hc]
        have hP0 : PAY ≠ [] := by
          intro e
          rw [hPAY, List.append_eq_nil_iff, List.append_eq_nil_iff] at e
          refine hc ⟨?_, e.2.1⟩
          rcases pres with _ | ⟨q, l⟩
          · rfl
          · exact absurd (List.flatten_eq_nil_iff.1 e.1 q (by simp)) (hb.ne q (by simp))
        rw [hNX, if_neg hP0, hPAY, List.length_append, List.length_append] at hbad
        omega
    · right
      refine ⟨fs9, _, _, key hgood, ?_⟩
      rcases hl with ⟨f', a, c, hl⟩ | ⟨a, g, hl⟩
      · refine .inl ⟨f', a, c, ?_⟩
        rw [hgo]
        simp only
        rw [hl]
        simp
      · refine .inr ⟨a, ?_⟩
        rw [hgo]
        simp only
        rw [hl]
        simp
/-! ### Reset -/
theorem Dk.tail {fs : FList} {nm : Key} {n0 : Int} {t : Key} {ts : List Key} (h : Dk fs nm n0 (t :: ts)) : Dk (fdel fs (fileL nm n0)) nm (n0 + 1) ts := by
  have hl := h.lo
  have hh := h.hi
  rw [List.length_cons] at hh
  refine ⟨by omega, by omega, fun x h0 h1 hx => ?_, fun i u hu => ?_, fun p hp => h.all p (List.mem_filter.1 hp).1⟩
  · by_cases e : x = n0
    · subst e; rw [fget_fdel_same] at hx; cases hx
    · rw [fget_fdel_ne (fun e2 => e (fileL_inj h0 h1 hl (by omega) e2))] at hx
      have := h.mem x h0 h1 hx
      rw [List.length_cons] at this
      omega
  · have hi := (List.getElem?_eq_some_iff.1 hu).1
    rw [fget_fdel_ne (fun e2 => by have := fileL_inj (by omega) (by omega) hl (by omega) e2; omega), show n0 + 1 + (i : Int) = n0 + ((i + 1 : Nat) : Int) by omega]
    exact h.txt (i + 1) u (by simpa using hu)
theorem resetL_kn (n : Int) : ∀ (pss : List (List Key)) {A : AD} {n0 b : Int} {segs : List ASeg}, A.pow.off = false → Dk A.fs nmLog.data.toList n0 (textsL b pss) → Fine b pss → (∀ q ∈ pss.dropLast, q ≠ []) → SegsEq segs (segsL n0 b pss) → b ≤ n →
    ∃ A' n0' b' pss' segs', resetL nmLog.data.toList n A segs = (0, A', segs', false) ∧ A'.pow = A.pow ∧ Dk A'.fs nmLog.data.toList n0' (textsL b' pss') ∧ Fine b' pss' ∧ (∀ q ∈ pss'.dropLast, q ≠ []) ∧ SegsEq segs' (segsL n0' b' pss') ∧ b' ≤ n ∧ b ≤ b' ∧ pss'.flatten = pss.flatten.drop (b' - b).toNat ∧ b' + (pss'.flatten.length : Int) = b + (pss.flatten.length : Int)
  | [], A, n0, b, segs, hoff, hd, hf, hne, hs, hb => by
    cases hs
    exact ⟨A, n0, b, [], [], rfl, rfl, hd, hf, hne, .nil, hb, Int.le_refl _, by simp, rfl⟩
  | ps :: r, A, n0, b, segs, hoff, hd, hf, hne, hs, hb => by
    have hs0 := hs
    simp only [segsL] at hs
    cases hs with
    | @cons s s' l l' hseg hrest =>
      obtain ⟨e1, e2, e3⟩ := hseg
      simp only at e1 e2 e3
      by_cases hbel : belowA s n = true
      · have hbn : b + (ps.length : Int) ≤ n := by
          unfold belowA at hbel
          rw [Bool.or_eq_true, beq_iff_eq, decide_eq_true_eq] at hbel
          by_cases h0 : s.size = 0
          · have : ps = [] := framesL_nil.1 (by rw [e2] at h0; exact_mod_cast h0)
            rw [this]; simpa using hb
          · rcases hbel with h1 | h1
            · exact absurd h1 h0
            · rw [e3 h0] at h1; exact h1
        have hget : fget A.fs (fileL nmLog.data.toList n0) = some (cl (framesL b ps)) := by
          have := hd.txt 0 (framesL b ps) rfl
          simpa using this
        have hrm : A.remove (fileL nmLog.data.toList s.num) = (0, { A with fs := fdel A.fs (fileL nmLog.data.toList n0) }) := by rw [e1]; exact remove_some hoff hget
        have hfl : (ps :: r).flatten = ps ++ r.flatten := by simp
        have hft := hf.top
        have hfs := hf.small
        have hb0 := hf.b0
        rw [hfl] at hft hfs
        rw [List.length_append] at hft
        have hne' : ∀ q ∈ r.dropLast, q ≠ [] := by
          cases r with
          | nil => intro q hq; simp at hq
          | cons q1 r1 => intro q hq; exact hne q (by rw [List.dropLast_cons_of_ne_nil (by simp)]; simp [hq])
        obtain ⟨A', n0', b', pss', segs', h1, h2, h3, h4, h5, h6, h7, h8, h9, h10⟩ := resetL_kn n r (A := { A with fs := fdel A.fs (fileL nmLog.data.toList n0) }) (n0 := n0 + 1) (b := b + (ps.length : Int)) hoff hd.tail ⟨by omega, by omega, fun p hp => hfs p (by simp [hp])⟩ hne' hrest hbn
        refine ⟨A', n0', b', pss', segs', ?_, h2, h3, h4, h5, h6, h7, by omega, ?_, by rw [h10, hfl, List.length_append]; omega⟩
        · show (if belowA s n = true then _ else _) = _
          rw [if_pos hbel, hrm]
          simp only
          rw [if_neg (by simp)]
          exact h1
        · rw [h9, hfl]
          have e4 : (b' - b).toNat = ps.length + (b' - (b + (ps.length : Int))).toNat := by omega
          have e5 : ps.drop (ps.length + (b' - (b + (ps.length : Int))).toNat) = [] := List.drop_eq_nil_of_le (by omega)
          rw [e4, List.drop_append, e5, List.nil_append, Nat.add_sub_cancel_left]
      · refine ⟨A, n0, b, ps :: r, s :: l, ?_, rfl, hd, hf, hne, hs0, hb, Int.le_refl _, by simp, rfl⟩
        show (if belowA s n = true then _ else _) = _
        rw [if_neg hbel]
theorem reset_kn {A : AD} {g : AL} {sz first : Int} {acked : List Key} {n0 b : Int} {pss : List (List Key)} (hoff : A.pow.off = false) (h : KN A.fs g sz first acked n0 b pss) {n : Int} (h1 : first ≤ n) (h2 : n ≤ g.next) {R : Int × AD × AL} (hR : resetA A g n = R) :
    R.1 = 0 ∧ R.2.1.pow = A.pow ∧ R.2.2.next = g.next ∧ ∃ n0' b' pss', KN R.2.1.fs R.2.2 sz n (acked.drop (n - first).toNat) n0' b' pss' := by
  subst hR
  have hlo := h.lo
  have hb0 := h.fine.b0
  obtain ⟨A', n0', b', pss', segs', e1, e2, e3, e4, e5, e6, e7, e8, e9, e10⟩ := resetL_kn n pss hoff h.dk h.fine h.ne h.segs (by omega)
  have hR : resetA A g n = (0, A', { g with segs := segs', dead := false }) := by
    unfold resetA
    rw [if_neg (by rw [h.dead]; simp), if_neg (by omega)]
    simp only
    rw [show resetL g.name.data.toList n A g.segs = (0, A', segs', false) by rw [h.name]; exact e1]
  rw [hR]
  refine ⟨rfl, e2, rfl, n0', b', pss', e3, e4, e5, h.name, h.room, rfl, ?_, e6, e7, h2, ?_⟩
  · simp only; rw [h.next]; omega
  · rw [h.ack, e9, List.drop_drop, List.drop_drop]
    congr 1
    omega
theorem reset_over {A : AD} {g : AL} (hd : g.dead = false) : resetA A g (g.next + 1) = (1, A, g) := by
  unfold resetA
  rw [if_neg (by rw [hd]; simp), if_pos (by omega)]
end Go.Proofs.YtdffmmiegpndkaaGreatDoor
