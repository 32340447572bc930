import Derived.Test.YtdffmmiegpndkaaGreatDoorWK1
/-
  WALKEEPS, PLAIN: a disk on which all is safe, and the log's segments on it.
-/
namespace Go.Proofs.YtdffmmiegpndkaaGreatDoor
open Go.RowKit
set_option linter.unusedVariables false
theorem numOf_fileL {nm : Key} {x : Int} (h0 : 0 ≤ x) (h1 : x ≤ 9999999) : numOf (fileL nm x) nm = some x := by
  rw [numOf_iff]
  refine ⟨?_, h0, h1, ?_⟩
  · unfold fileL Lib.hasPrefix
    rw [List.isPrefixOf_iff_prefix, show nm ++ 46 :: Lib.itoa x = (nm ++ [46]) ++ Lib.itoa x by simp]
    exact List.prefix_append _ _
  · unfold fileL
    rw [show nm ++ 46 :: Lib.itoa x = (nm ++ [46]) ++ Lib.itoa x by simp, List.drop_left' (by simp)]
theorem fileL_inj {nm : Key} {x y : Int} (h0 : 0 ≤ x) (h1 : x ≤ 9999999) (k0 : 0 ≤ y) (k1 : y ≤ 9999999) (e : fileL nm x = fileL nm y) : x = y := by
  have h := numOf_fileL (nm := nm) h0 h1
  rw [e, numOf_fileL k0 k1] at h
  exact (Option.some.inj h).symm
structure Dk (fs : FList) (nm : Key) (n0 : Int) (ts : List Key) : Prop where
  lo : 0 ≤ n0
  hi : n0 + ts.length ≤ 10000000
  mem : ∀ x, 0 ≤ x → x ≤ 9999999 → (fget fs (fileL nm x)).isSome = true → n0 ≤ x ∧ x < n0 + ts.length
  txt : ∀ (i : Nat) (t : Key), ts[i]? = some t → fget fs (fileL nm (n0 + (i : Int))) = some (cl t)
  all : ∀ p ∈ fs, ∃ t, p.2 = cl t
theorem nums_of {A : AD} {nm : Key} {n0 : Int} {ts : List Key} (hok : A.Ok) (hoff : A.pow.off = false) (h : Dk A.fs nm n0 ts) : numsL A nm = nseq n0 ts.length := by
  have hlo := h.lo
  have hhi := h.hi
  have hfound : foundL A nm = (fkeys A.fs).filterMap (fun f => numOf f nm) := by unfold foundL; rw [list_on hoff]
  have hmem : ∀ x, x ∈ foundL A nm ↔ x ∈ nseq n0 ts.length := fun x => by
    rw [hfound, List.mem_filterMap]
    constructor
    · rintro ⟨f, hf, hx⟩
      have hr := numOf_range hx
      obtain ⟨p, hp, rfl⟩ := List.mem_map.1 hf
      have hfl := numOf_file hx
      have hg : fget A.fs (fileL nm x) = some p.2 := mem_fget (apart_of hok.sorted) (by rw [← hfl]; exact hp)
      have := h.mem x hr.1 hr.2 (by rw [hg]; rfl)
      unfold nseq
      rw [List.mem_map]
      exact ⟨(x - n0).toNat, List.mem_range.2 (by omega), by omega⟩
    · intro hx
      unfold nseq at hx
      obtain ⟨i, hi, rfl⟩ := List.mem_map.1 hx
      rw [List.mem_range] at hi
      have hg := h.txt i _ (List.getElem?_eq_getElem hi)
      exact ⟨fileL nm (n0 + (i : Int)), List.mem_map.2 ⟨_, fget_mem hg, rfl⟩, numOf_fileL (by omega) (by omega)⟩
  have hnd : (foundL A nm).Nodup := by
    rw [hfound]
    have hk : (fkeys A.fs).Nodup := by
      unfold fkeys
      refine List.Pairwise.map _ (fun a b hab => hab) (apart_of hok.sorted)
    refine List.Pairwise.filterMap _ (R := (· ≠ ·)) (S := (· ≠ ·)) (fun a b hab x hx y hy e => ?_) hk
    subst e
    exact hab ((numOf_file hx).trans (numOf_file hy).symm)
  have hnd2 : (nseq n0 ts.length).Nodup := by
    unfold nseq
    refine List.Pairwise.map _ (fun a b hab e => hab ?_) List.nodup_range
    omega
  have hs2 : (nseq n0 ts.length).Pairwise (· ≤ ·) := by
    unfold nseq
    refine List.Pairwise.map _ (fun a b hab => ?_) List.pairwise_lt_range
    omega
  have h3 : (sortN (foundL A nm)).Pairwise (· ≤ ·) := by
    have := List.pairwise_mergeSort (le := fun a b : Int => decide (a ≤ b)) (fun a b c => by simp; omega) (fun a b => by simp; omega) (foundL A nm)
    unfold sortN
    refine this.imp (fun h => of_decide_eq_true h)
  unfold numsL
  refine List.Perm.eq_of_pairwise (le := (· ≤ ·)) (fun a b _ _ x y => Int.le_antisymm x y) h3 hs2 ?_
  exact (List.mergeSort_perm _ _).trans ((List.perm_ext_iff_of_nodup hnd hnd2).2 hmem)
theorem text_of {A : AD} {nm : Key} {n : Int} {t : Key} (hoff : A.pow.off = false) (hok : A.Ok) (h : fget A.fs (fileL nm n) = some (cl t)) : textOf A nm n = t :=
  text_seen hoff h ((hok.files _ (fget_mem h)).most)
/-! ### what leaves such a disk as it is -/
theorem cl_sync (t : Key) : (cl t).sync = cl t := rfl
theorem cl_crash (t : Key) (ft : Nat → Option AFate) : (cl t).crash ft = cl t := by
  have h : (cl t).left ft = t := Clean.left ⟨rfl, rfl, fun _ => rfl⟩ ft
  unfold AF.crash
  rw [h]
  rfl
theorem cl_trunc (t : Key) (n : Nat) : (cl t).trunc n = cl (t.take n) := rfl
theorem fset_self {k : Key} {F : AF} : ∀ {fs : FList}, fget fs k = some F → fs.Pairwise (fun p q => p.1 ≠ q.1) → fset fs k F = fs
  | [], _, _ => rfl
  | p :: r, h, hp => by
    rw [fset_cons]
    rw [fget_cons] at h
    rw [List.pairwise_cons] at hp
    by_cases e : p.1 = k
    · rw [if_pos e] at h ⊢
      cases h
      have hn : fget r k = none := fget_none_iff.2 (fun q hq => by rw [← e]; exact (hp.1 q hq).symm)
      rw [fset_none hn]
    · rw [if_neg e] at h ⊢
      rw [fset_self h hp.2]
theorem fset_fset (k : Key) (F G : AF) : ∀ fs : FList, fset (fset fs k F) k G = fset fs k G
  | [] => rfl
  | p :: r => by
    rw [fset_cons, fset_cons, fset_cons, fset_fset k F G r]
    by_cases e : p.1 = k
    · simp only [if_pos e]
    · simp only [if_neg e]
theorem fdel_fins (x : Key × AF) : ∀ fs : FList, fdel (fins x fs) x.1 = fdel fs x.1
  | [] => by simp [fdel, fins]
  | y :: r => by
    unfold fins
    split
    · simp [fdel]
    · have ih := fdel_fins x r
      unfold fdel at ih ⊢
      rw [List.filter_cons, List.filter_cons, ih]
theorem fdel_fput {fs : FList} {k : Key} {F : AF} (h : fget fs k = none) : fdel (fput fs k F) k = fs := by
  unfold fput
  have := fdel_fins (k, F) (fdel fs k)
  rw [this, fdel_of_none (fget_fdel_same), fdel_of_none h]
theorem syncs_cl {cap : Int} {fs : FList} (hs : fs.Pairwise (fun p q => p.1 ≠ q.1)) : ∀ (ks : List Key) (f : Int), 0 ≤ f → (∀ k ∈ ks, ∃ t, fget fs k = some (cl t)) →
    (∃ f', 0 ≤ f' ∧ f' ≤ f ∧ AD.syncs ⟨cap, fs, ⟨false, false, 0, 0, f⟩⟩ ks = (0, ⟨cap, fs, ⟨false, false, 0, 0, f'⟩⟩)) ∨ (f ≠ 0 ∧ AD.syncs ⟨cap, fs, ⟨false, false, 0, 0, f⟩⟩ ks = (9, ⟨cap, fs, ⟨true, true, 0, 0, 0⟩⟩))
  | [], f, h0, _ => .inl ⟨f, h0, Int.le_refl _, rfl⟩
  | k :: r, f, h0, h => by
    obtain ⟨t, ht⟩ := h k (by simp)
    by_cases h1 : f = 1
    · refine .inr ⟨by omega, ?_⟩
      have hc : (⟨false, false, 0, 0, f⟩ : AP).count 2 = (9, ⟨true, true, 0, 0, 0⟩) := by unfold AP.count; rw [if_pos h1]
      have hy : AD.sync ⟨cap, fs, ⟨false, false, 0, 0, f⟩⟩ k = (9, ⟨cap, fs, ⟨true, true, 0, 0, 0⟩⟩) := by
        rw [sync_count rfl ht (by rw [hc]; decide), hc]
      show (if (AD.sync ⟨cap, fs, _⟩ k).1 ≠ 0 then _ else _) = _
      rw [hy]
      simp
    · have hc : ∃ f1, 0 ≤ f1 ∧ f1 ≤ f ∧ (f1 ≠ 0 → f ≠ 0) ∧ (⟨false, false, 0, 0, f⟩ : AP).count 2 = (0, ⟨false, false, 0, 0, f1⟩) := by
        refine ⟨AP.fell ⟨false, false, 0, 0, f⟩, ?_, ?_, ?_, ?_⟩
        · unfold AP.fell; simp only; split <;> omega
        · unfold AP.fell; simp only; split <;> omega
        · unfold AP.fell; simp only; split <;> omega
        · unfold AP.count; rw [if_neg h1, if_neg (by simp)]
      obtain ⟨f1, g0, g1, g2, hc⟩ := hc
      have hy : AD.sync ⟨cap, fs, ⟨false, false, 0, 0, f⟩⟩ k = (0, ⟨cap, fs, ⟨false, false, 0, 0, f1⟩⟩) := by
        rw [sync_some rfl ht (by rw [hc]), hc]
        simp only [cl_sync, fset_self ht hs]
      have hst : AD.syncs ⟨cap, fs, ⟨false, false, 0, 0, f⟩⟩ (k :: r) = AD.syncs ⟨cap, fs, ⟨false, false, 0, 0, f1⟩⟩ r := by
        show (if (AD.sync ⟨cap, fs, _⟩ k).1 ≠ 0 then _ else _) = _
        rw [hy]
        simp
      rw [hst]
      rcases syncs_cl hs r f1 g0 (fun q hq => h q (by simp [hq])) with ⟨f', a, b, c⟩ | ⟨a, c⟩
      · exact .inl ⟨f', a, by omega, c⟩
      · exact .inr ⟨g2 a, c⟩
theorem crash_cl {fs : FList} (h : ∀ p ∈ fs, ∃ t, p.2 = cl t) (l : List AFate) : fs.map (fun p => (p.1, p.2.crash (fateOf l p.1))) = fs := by
  conv => rhs; rw [← List.map_id fs]
  refine List.map_congr_left fun p hp => ?_
  obtain ⟨t, ht⟩ := h p hp
  obtain ⟨k, F⟩ := p
  simp only at ht
  subst ht
  simp only [cl_crash, id]
/-- Behind a crash, and on again. -/
theorem back_cl {A : AD} (h : ∀ p ∈ A.fs, ∃ t, p.2 = cl t) (hs : A.pow.off = true → A.pow.opn = true) (l : List AFate) : (A.crash l).on = ⟨A.cap, A.fs, p0⟩ := by
  have e : A.crash l = ⟨A.cap, A.fs, ⟨true, false, 0, 0, 0⟩⟩ := by
    unfold AD.crash
    rw [if_neg (fun hh => by rw [hs hh.1] at hh; cases hh.2), crash_cl h]
  rw [e]
  rfl
end Go.Proofs.YtdffmmiegpndkaaGreatDoor
/-
  WALKEEPS, PLAIN: Open of a log whose last segment ends in anything.
-/
namespace Go.Proofs.YtdffmmiegpndkaaGreatDoor
open Go.RowKit
set_option linter.unusedVariables false
theorem segsL_num : ∀ (pss : List (List Key)) (n b : Int), (segsL n b pss).map ASeg.num = nseq n pss.length
  | [], n, b => rfl
  | ps :: r, n, b => by
    rw [List.length_cons, nseq_succ]
    simp only [segsL, List.map_cons]
    rw [segsL_num r]
theorem Dk.set {fs : FList} {nm : Key} {n0 : Int} {ts : List Key} {t : Key} (h : Dk fs nm n0 (ts ++ [t])) (t' : Key) : Dk (fset fs (fileL nm (n0 + (ts.length : Int))) (cl t')) nm n0 (ts ++ [t']) := by
  have hl := h.lo
  have hh := h.hi
  rw [List.length_append, List.length_singleton] at hh
  have hold := h.txt ts.length t (by simp)
  refine ⟨hl, by rw [List.length_append, List.length_singleton]; exact hh, fun x h0 h1 hx => ?_, fun i u hu => ?_, fun p hp => ?_⟩
  · rw [List.length_append, List.length_singleton]
    by_cases e : x = n0 + (ts.length : Int)
    · omega
    · rw [fget_fset_ne (fun e2 => e (fileL_inj h0 h1 (by omega) (by omega) e2))] at hx
      have := h.mem x h0 h1 hx
      rw [List.length_append, List.length_singleton] at this
      exact this
  · by_cases e : i = ts.length
    · subst e
      rw [List.getElem?_append_right (Nat.le_refl _), Nat.sub_self] at hu
      cases hu
      exact fget_fset_same hold
    · have hi : i < ts.length := by
        have := (List.getElem?_eq_some_iff.1 hu).1
        rw [List.length_append, List.length_singleton] at this
        omega
      rw [List.getElem?_append_left hi] at hu
      rw [fget_fset_ne (fun e2 => e (by have := fileL_inj (by omega) (by omega) (by omega) (by omega) e2; omega))]
      exact h.txt i u (by rw [List.getElem?_append_left hi]; exact hu)
  · rcases fset_mem hp with rfl | hq
    · exact ⟨t', rfl⟩
    · exact h.all p hq
/-- Whole segments, and a last one with anything behind its frames. -/
structure Bf (fs : FList) (nm : Key) (n0 b : Int) (pres : List (List Key)) (ps : List Key) (X : Key) : Prop where
  dk : Dk fs nm n0 (textsL b pres ++ [framesL (b + (pres.flatten.length : Int)) ps ++ X])
  fine : Fine b (pres ++ [ps])
  ne : ∀ q ∈ pres, q ≠ []
/-- The number at which what stands behind is read. -/
def behindN (b : Int) (pres : List (List Key)) (ps : List Key) (X : Key) : Int := if pres = [] ∧ ps = [] then firstN X else b + (pres.flatten.length : Int) + (ps.length : Int)
theorem rd_bf {A : AD} {nm : Key} {n0 b : Int} {pres : List (List Key)} {ps : List Key} {X : Key} (hok : A.Ok) (hoff : A.pow.off = false) (h : Bf A.fs nm n0 b pres ps X) {N : Int} (hN : behindN b pres ps X = N) {r : List Key × Key} (hr : scanA X N = r) :
    rdOf A nm = (pres.length + 1, ⟨pres.flatten ++ (ps ++ r.1), N + (r.1.length : Int), segsL n0 b pres ++ [⟨n0 + (pres.length : Int), (((framesL (b + (pres.flatten.length : Int)) ps).length + (X.length - r.2.length) : Nat) : Int), N + (r.1.length : Int)⟩], !r.2.isEmpty⟩) := by
  have hn := nums_of hok hoff h.dk
  rw [List.length_append, List.length_singleton, textsL_len] at hn
  have hfl : (pres ++ [ps]).flatten = pres.flatten ++ ps := by simp
  have htop := h.fine.top
  have hsm := h.fine.small
  have hb0 := h.fine.b0
  rw [hfl] at htop hsm
  rw [List.length_append] at htop
  have hfp : Fine b pres := ⟨hb0, by omega, fun p hp => hsm p (by simp [hp])⟩
  have ht : ∀ (i : Nat) (q : List Key), pres[i]? = some q → textOf A nm (n0 + (i : Int)) = framesL (b + (pres.take i).flatten.length) q := fun i q hq => by
    have hi : i < pres.length := (List.getElem?_eq_some_iff.1 hq).1
    refine text_of hoff hok (h.dk.txt i _ ?_)
    rw [List.getElem?_append_left (by rw [textsL_len]; exact hi)]
    exact textsL_get hq
  have htl : textOf A nm (n0 + (pres.length : Int)) = framesL (b + (pres.flatten.length : Int)) ps ++ X := by
    refine text_of hoff hok (h.dk.txt pres.length _ ?_)
    rw [List.getElem?_append_right (by rw [textsL_len]; omega), textsL_len, Nat.sub_self]
    rfl
  have hle : r.2.length ≤ X.length := by
    have := (scanA_found X N).told.suffix.2
    rw [hr] at this
    omega
  by_cases hc : pres = [] ∧ ps = []
  · obtain ⟨rfl, rfl⟩ := hc
    have e1 : N = firstN X := by rw [← hN]; unfold behindN; rw [if_pos ⟨rfl, rfl⟩]
    have e2 : framesL (b + (([] : List (List Key)).flatten.length : Int)) [] ++ X = X := rfl
    rw [e2] at htl
    have := rd_last (t := X) (nx := N) (r := r) hn ht htl h.ne hfp (by rw [if_pos rfl, e1]) hr
    rw [this]
    simp [framesL]
  · have e1 : N = b + (pres.flatten.length : Int) + (ps.length : Int) := by rw [← hN]; unfold behindN; rw [if_neg hc]
    have hnx : b + (pres.flatten.length : Int) = if pres = [] then firstN (framesL (b + (pres.flatten.length : Int)) ps ++ X) else b + (pres.flatten.length : Int) := by
      by_cases h0 : pres = []
      · have hp0 : ps ≠ [] := fun e => hc ⟨h0, e⟩
        have hpl : 0 < ps.length := List.length_pos_iff.2 hp0
        rw [if_pos h0, first_frames X hp0 (by omega) (by omega)]
      · rw [if_neg h0]
    have hsc : scanA (framesL (b + (pres.flatten.length : Int)) ps ++ X) (b + (pres.flatten.length : Int)) = (ps ++ r.1, r.2) := by
      rw [scan_app ps _ X (by omega) (by omega) (fun p hp => hsm p (by simp [hp])), ← e1, hr]
    rw [rd_last (nx := b + (pres.flatten.length : Int)) hn ht htl h.ne hfp hnx hsc]
    simp only [List.length_append, Prod.mk.injEq, RSt.mk.injEq, true_and, and_true, List.append_cancel_left_eq, List.cons.injEq, ASeg.mk.injEq]
    refine ⟨by omega, by omega, by omega⟩
/-- What the cut leaves of the last segment. -/
theorem cut_text2 {X : Key} {N : Int} {r : List Key × Key} (hr : scanA X N = r) : X.take (X.length - r.2.length) = framesL N r.1 := by
  have hs := told_split (scanA_found X N).told
  rw [hr] at hs
  have hl : (X.length - r.2.length) = (framesL N r.1).length := by
    have := congrArg List.length hs
    rw [List.length_append] at this
    omega
  rw [hl]
  conv => lhs; rw [hs]
  rw [List.take_left']
  rfl
structure Opened (fs : FList) (nm : ByteArray) (sz first : Int) (n0 b : Int) (pres : List (List Key)) (ps : List Key) (X : Key) (N : Int) (r : List Key × Key) (fs9 : FList) (SEGS : List ASeg) (PAY : List Key) (NX : Int) : Prop where
  pay : PAY = pres.flatten ++ (ps ++ r.1)
  nx : NX = if PAY = [] then first else N + (r.1.length : Int)
  fs : fs9 = fset fs (fileL nm.data.toList (n0 + (pres.length : Int))) (cl (framesL (b + (pres.flatten.length : Int)) ps ++ framesL N r.1))
  segs : SEGS = segsL n0 b pres ++ [⟨n0 + (pres.length : Int), (((framesL (b + (pres.flatten.length : Int)) ps).length + (X.length - r.2.length) : Nat) : Int), N + (r.1.length : Int)⟩]
theorem load_bf {cap f : Int} {fs fs9 : FList} {nm : ByteArray} {n0 b : Int} {pres : List (List Key)} {ps : List Key} {X : Key} (hok : AD.Ok ⟨cap, fs, ⟨false, false, 0, 0, f⟩⟩) (hf : 0 ≤ f) (h : Bf fs nm.data.toList n0 b pres ps X) {N : Int} (hN : behindN b pres ps X = N) {r : List Key × Key} (hr : scanA X N = r) (sz first : Int) {SEGS : List ASeg} {PAY : List Key} {NX : Int} (ho : Opened fs nm sz first n0 b pres ps X N r fs9 SEGS PAY NX) :
    ((first < NX - PAY.length ∨ NX < first) ∧ ∃ g, loadA ⟨cap, fs, ⟨false, false, 0, 0, f⟩⟩ ⟨nm, sz, [], 0, false⟩ first = ([], 60, ⟨cap, fs, ⟨false, false, 0, 0, f⟩⟩, g)) ∨
    (¬ (first < NX - PAY.length ∨ NX < first) ∧ ((∃ f', 0 ≤ f' ∧ f' ≤ f ∧ loadA ⟨cap, fs, ⟨false, false, 0, 0, f⟩⟩ ⟨nm, sz, [], 0, false⟩ first = (PAY.drop (first - (NX - PAY.length)).toNat, 0, ⟨cap, fs9, ⟨false, false, 0, 0, f'⟩⟩, ⟨nm, sz, SEGS, NX, false⟩)) ∨
      (f ≠ 0 ∧ ∃ g, loadA ⟨cap, fs, ⟨false, false, 0, 0, f⟩⟩ ⟨nm, sz, [], 0, false⟩ first = ([], 9, ⟨cap, fs9, ⟨true, true, 0, 0, 0⟩⟩, g)))) := by
  have hrd := rd_bf hok rfl h hN hr
  have hnum := nums_of hok rfl h.dk
  rw [List.length_append, List.length_singleton, textsL_len] at hnum
  have hcon : consec (numsL ⟨cap, fs, ⟨false, false, 0, 0, f⟩⟩ nm.data.toList) = true := by rw [hnum]; exact nseq_consec _ _
  have hle : r.2.length ≤ X.length := by
    have := (scanA_found X N).told.suffix.2
    rw [hr] at this
    omega
  have hcut := cut_text2 hr
  unfold rdOf at hrd
  have hlen : (numsL ⟨cap, fs, ⟨false, false, 0, 0, f⟩⟩ nm.data.toList).length = pres.length + 1 := by rw [hnum, nseq_len]
  unfold loadA
  simp only
  rw [if_neg (by rw [hcon]; simp), hrd]
  simp only
  rw [if_neg (by rw [hlen]; omega), ← ho.pay, ← ho.segs, ← ho.nx]
  by_cases hbad : first < NX - PAY.length ∨ NX < first
  · refine .inl ⟨hbad, ?_⟩
    rw [if_pos hbad]
    exact ⟨_, rfl⟩
  · refine .inr ⟨hbad, ?_⟩
    rw [if_neg hbad]
    have hlast : SEGS.getLastD ⟨0, 0, 0⟩ = ⟨n0 + (pres.length : Int), (((framesL (b + (pres.flatten.length : Int)) ps).length + (X.length - r.2.length) : Nat) : Int), N + (r.1.length : Int)⟩ := by rw [ho.segs, List.getLastD_eq_getLast?, List.getLast?_concat]; rfl
    have hold : fget fs (fileL nm.data.toList (n0 + (pres.length : Int))) = some (cl (framesL (b + (pres.flatten.length : Int)) ps ++ X)) := by
      refine h.dk.txt pres.length _ ?_
      rw [List.getElem?_append_right (by rw [textsL_len]; omega), textsL_len, Nat.sub_self]
      rfl
    have hT : (if (!r.2.isEmpty) = true then AD.trunc ⟨cap, fs, ⟨false, false, 0, 0, f⟩⟩ (fileL nm.data.toList (SEGS.getLastD ⟨0, 0, 0⟩).num) (SEGS.getLastD ⟨0, 0, 0⟩).size else (0, ⟨cap, fs, ⟨false, false, 0, 0, f⟩⟩)) = (0, ⟨cap, fs9, ⟨false, false, 0, 0, f⟩⟩) := by
      rw [ho.fs, ← hcut]
      by_cases he : r.2 = []
      · rw [he]
        simp only [List.isEmpty_nil, Bool.not_true, Bool.false_eq_true, if_false, List.length_nil, Nat.sub_zero, List.take_length]
        rw [fset_self hold (apart_of hok.sorted)]
      · have h1 : (!r.2.isEmpty) = true := by cases hq : r.2 with | nil => exact absurd hq he | cons a l => rfl
        rw [if_pos h1, hlast]
        simp only
        rw [trunc_some rfl hold (by
          show ¬ ((_ : Int) < 0 ∨ (_ : Int) > ((framesL (b + (pres.flatten.length : Int)) ps ++ X).length : Int))
          rw [List.length_append]; omega)]
        simp only [Int.toNat_natCast, cl_trunc]
        rw [List.take_length_add_append]
    rw [hT]
    simp only
    rw [if_neg (by simp)]
    have hd9 := h.dk.set (framesL (b + (pres.flatten.length : Int)) ps ++ framesL N r.1)
    rw [textsL_len, ← ho.fs] at hd9
    have hfiles : ∀ k ∈ (⟨nm, sz, SEGS, NX, false⟩ : AL).files, ∃ t, fget fs9 k = some (cl t) := by
      intro k hk
      unfold AL.files at hk
      simp only at hk
      obtain ⟨s, hs, rfl⟩ := List.mem_map.1 hk
      have hm : s.num ∈ SEGS.map ASeg.num := List.mem_map.2 ⟨s, hs, rfl⟩
      have hall : SEGS.map ASeg.num = nseq n0 (pres.length + 1) := by
        rw [ho.segs, List.map_append, segsL_num]
        unfold nseq
        rw [List.range_succ, List.map_append]
        rfl
      rw [hall] at hm
      unfold nseq at hm
      obtain ⟨i, hi, he⟩ := List.mem_map.1 hm
      rw [List.mem_range] at hi
      rw [← he]
      have hi2 : i < (textsL b pres ++ [framesL (b + (pres.flatten.length : Int)) ps ++ framesL N r.1]).length := by rw [List.length_append, textsL_len]; exact hi
      exact ⟨_, hd9.txt i _ (List.getElem?_eq_getElem hi2)⟩
    have hpw : fs9.Pairwise (fun p q => p.1 ≠ q.1) := by rw [ho.fs]; exact apart_of (fset_sorted hok.sorted)
    rcases syncs_cl (cap := cap) hpw _ f hf hfiles with ⟨f', a, b', c⟩ | ⟨a, c⟩
    · refine .inl ⟨f', a, b', ?_⟩
      rw [c]
      simp
    · refine .inr ⟨a, ?_⟩
      rw [c]
      simp
theorem load_none {cap f : Int} {fs : FList} {nm : ByteArray} {n0 : Int} (hok : AD.Ok ⟨cap, fs, ⟨false, false, 0, 0, f⟩⟩) (h : Dk fs nm.data.toList n0 []) (sz first : Int) : loadA ⟨cap, fs, ⟨false, false, 0, 0, f⟩⟩ ⟨nm, sz, [], 0, false⟩ first = ([], 0, ⟨cap, fs, ⟨false, false, 0, 0, f⟩⟩, ⟨nm, sz, [], first, false⟩) := by
  have hnum := nums_of hok rfl h
  have hn : numsL ⟨cap, fs, ⟨false, false, 0, 0, f⟩⟩ nm.data.toList = [] := hnum
  unfold loadA
  simp only
  rw [hn]
  simp [consec, rdFin, rdK, AL.files, AD.syncs]
end Go.Proofs.YtdffmmiegpndkaaGreatDoor
