import Derived.Test.YtdffmmiegpndkaaGreatDoorWK7
import Derived.Test.YtdffmmiegpndkaaGreatDoorWKNum
/-
  WALKEEPS, PLAIN: the book's state, step by step.
-/
namespace Go.Proofs.YtdffmmiegpndkaaGreatDoor
open Go.RowKit
set_option linter.unusedVariables false
theorem segsL_mem : ∀ {pss : List (List Key)} {n b : Int} {s : ASeg}, s ∈ segsL n b pss → ∃ (i : Nat) (t : Key), (textsL b pss)[i]? = some t ∧ s.num = n + (i : Int) ∧ s.size = (t.length : Int)
  | [], _, _, s, h => by simp [segsL] at h
  | ps :: r, n, b, s, h => by
    simp only [segsL, List.mem_cons] at h
    rcases h with rfl | h
    · exact ⟨0, framesL b ps, rfl, by simp, rfl⟩
    · obtain ⟨i, t, h1, h2, h3⟩ := segsL_mem h
      exact ⟨i + 1, t, by simpa [textsL] using h1, by rw [h2]; omega, h3⟩
theorem SegsEq.memL {l l' : List ASeg} (h : SegsEq l l') : ∀ s ∈ l, ∃ s' ∈ l', SegEq s s' := by
  induction h with
  | nil => intro s hs; cases hs
  | @cons a a' l l' h1 _ ih =>
    intro s hs
    rcases List.mem_cons.1 hs with rfl | hs
    · exact ⟨a', by simp, h1⟩
    · obtain ⟨s', h2, h3⟩ := ih s hs
      exact ⟨s', by simp [h2], h3⟩
theorem framesL_few : ∀ (ps : List Key) (n : Int), 64 * ps.length ≤ (framesL n ps).length
  | [], n => by simp [framesL]
  | p :: ps, n => by
    show _ ≤ (Fr.frameL n.toNat p ++ framesL (n + 1) ps).length
    rw [List.length_append, Fr.frameL_length, List.length_cons]
    have := (Fr.room_ge p.length).2.2.1
    have := framesL_few ps (n + 1)
    omega
theorem flat_few : ∀ (pss : List (List Key)) (b : Int) (M : Nat), (∀ t ∈ textsL b pss, t.length ≤ 64 * M) → pss.flatten.length ≤ M * pss.length
  | [], _, _, _ => by simp
  | ps :: r, b, M, h => by
    have h1 := h (framesL b ps) (by simp [textsL])
    have h2 := framesL_few ps b
    have h3 := flat_few r (b + ps.length) M (fun t ht => h t (by simp [textsL, ht]))
    rw [List.flatten_cons, List.length_append, List.length_cons, Nat.mul_succ]
    omega
theorem KN.text {fs : FList} {g : AL} {sz first : Int} {acked : List Key} {n0 b : Int} {pss : List (List Key)} {cap : Int} {P : AP} (h : KN fs g sz first acked n0 b pss) (hok : AD.Ok ⟨cap, fs, P⟩) : ∀ t ∈ textsL b pss, t.length ≤ 1048576 := fun t ht => by
  obtain ⟨i, hi⟩ := List.mem_iff_getElem?.1 ht
  exact (hok.files _ (fget_mem (h.dk.txt i t hi))).most
theorem KN.fit {A : AD} {g : AL} {sz first : Int} {acked : List Key} {n0 b : Int} {pss : List (List Key)} (h : KN A.fs g sz first acked n0 b pss) (hok : A.Ok) : g.Fit := by
  have hlo := h.dk.lo
  have hhi := h.dk.hi
  rw [textsL_len] at hhi
  have hlen := h.segs.len
  rw [segsL_len] at hlen
  have htop := h.fine.top
  have hb0 := h.fine.b0
  have hnx := h.next
  refine ⟨by rw [h.name]; decide, fun s hs => ?_, by omega, by omega, by omega⟩
  obtain ⟨s', hs', e1, e2, _⟩ := h.segs.memL s hs
  obtain ⟨i, t, h1, h2, h3⟩ := segsL_mem hs'
  have hi := (List.getElem?_eq_some_iff.1 h1).1
  rw [textsL_len] at hi
  have ht := h.text (cap := A.cap) (P := A.pow) hok t (List.mem_of_getElem? h1)
  rw [e1, e2, h2, h3]
  omega
theorem KN.few {A : AD} {g : AL} {sz first : Int} {acked : List Key} {n0 b : Int} {pss : List (List Key)} (h : KN A.fs g sz first acked n0 b pss) (hok : A.Ok) (hoff : A.pow.off = false) : acked.length ≤ 262144 := by
  have hn := nums_of hok hoff h.dk
  have h1 := numsL_length A nmLog.data.toList
  have h2 := found_few hok nmLog.data.toList
  rw [hn, nseq_len, textsL_len] at h1
  have h3 := flat_few pss b 16384 (fun t ht => by have := h.text (cap := A.cap) (P := A.pow) hok t ht; omega)
  rw [h.ack, List.length_drop]
  have : 16384 * pss.length ≤ 16384 * 16 := Nat.mul_le_mul_left _ (by omega)
  omega
theorem KN.alen {fs : FList} {g : AL} {sz first : Int} {acked : List Key} {n0 b : Int} {pss : List (List Key)} (h : KN fs g sz first acked n0 b pss) : (acked.length : Int) = g.next - first := by
  have h1 := h.next
  have h2 := h.lo
  have h3 := h.hi
  rw [h.ack, List.length_drop]
  omega
/-- The book's state. -/
structure KS (A : AD) (g : AL) (sz first : Int) (acked : List Key) (u : Key) (way : Bool) : Prop where
  f0 : 0 ≤ first
  f1 : first ≤ g.next
  alen : (acked.length : Int) = g.next - first
  few : acked.length ≤ 262144
  fit : g.Fit
  dead : g.dead = way
  calm : way = false → A.pow.off = false ∧ A.pow.opn = false ∧ ∃ n0 b pss, KN A.fs g sz first acked n0 b pss
  wayc : way = true → KW A g first acked u
theorem KS.mk' {A : AD} {g : AL} {sz first : Int} {acked : List Key} {n0 b : Int} {pss : List (List Key)} (h : KN A.fs g sz first acked n0 b pss) (hok : A.Ok) (hoff : A.pow.off = false) (hopn : A.pow.opn = false) (u : Key) : KS A g sz first acked u false :=
  ⟨by have := h.lo; have := h.fine.b0; omega, h.hi, h.alen, h.few hok hoff, h.fit hok, h.dead, fun _ => ⟨hoff, hopn, n0, b, pss, h⟩, fun e => by cases e⟩
theorem ks_app {A : AD} {g : AL} {sz first : Int} {acked : List Key} {u : Key} {way : Bool} (h : KS A g sz first acked u way) (hok : A.Ok) (t : ByteArray) {R : Int × AD × AL} (hR : appA A g t = R) (hok' : R.2.1.Ok) :
    (way = true ∧ R = (60, A, g)) ∨
    (way = false ∧ R.1 = 0 ∧ R.2.2.next = g.next + 1 ∧ KS R.2.1 R.2.2 sz first (acked ++ [t.data.toList]) u false) ∨
    (way = false ∧ R.1 = 9 ∧ R.2.2.next = g.next ∧ t.size ≤ 65536 ∧ KS R.2.1 R.2.2 sz first acked t.data.toList true) ∨
    (way = false ∧ R.1 ≠ 0 ∧ R.1 ≠ 9 ∧ R.2.2.next = g.next ∧ (t.size ≤ 65536 ∨ R.1 = 3) ∧ KS R.2.1 R.2.2 sz first acked u false) := by
  cases way with
  | true =>
    left
    refine ⟨rfl, ?_⟩
    rw [← hR]
    unfold appA
    rw [if_pos h.dead]
  | false =>
    right
    obtain ⟨hoff, hopn, n0, b, pss, hk⟩ := h.calm rfl
    rcases app_kn hok hoff hopn hk t hR with ⟨r0, p1, p2, nx, n0', pss', hk'⟩ | ⟨r9, nx, tz, kw, ge⟩ | ⟨r0, r9, p1, p2, tz, ge, fe⟩
    · exact .inl ⟨rfl, r0, nx, KS.mk' hk' hok' p1 p2 u⟩
    · refine .inr (.inl ⟨rfl, r9, nx, tz, h.f0, by rw [nx]; exact h.f1, by rw [nx]; exact h.alen, h.few, ?_, kw.dead, (fun e => by cases e), fun _ => kw⟩)
      rw [ge]
      exact ⟨h.fit.name, h.fit.segs, h.fit.len, h.fit.next⟩
    · rw [← ge, ← fe] at hk
      exact .inr (.inr ⟨rfl, r0, r9, by rw [ge], tz, KS.mk' hk hok' p1 p2 u⟩)
theorem ks_pow {A : AD} {g : AL} {sz first : Int} {acked : List Key} {u : Key} {way : Bool} (h : KS A g sz first acked u way) {P : AP} (h1 : P.off = A.pow.off) (h2 : P.opn = A.pow.opn) : KS { A with pow := P } g sz first acked u way := by
  refine ⟨h.f0, h.f1, h.alen, h.few, h.fit, h.dead, fun e => ?_, fun e => ?_⟩
  · obtain ⟨a, b, c⟩ := h.calm e
    exact ⟨by simp only; rw [h1]; exact a, by simp only; rw [h2]; exact b, c⟩
  · have k := h.wayc e
    refine ⟨by simp only; rw [h1]; exact k.off, by simp only; rw [h2]; exact k.opn, k.dead, fun ls => ?_⟩
    obtain ⟨fs', h3, h4⟩ := k.crash ls
    refine ⟨fs', ?_, h4⟩
    have e1 : AD.crash { A with pow := P } ls = A.crash ls := by
      unfold AD.crash
      rw [if_neg (by simp only; rw [h2, k.opn]; simp), if_neg (by rw [k.opn]; simp)]
    rw [e1]
    exact h3
theorem ks_reset {A : AD} {g : AL} {sz first : Int} {acked : List Key} {u : Key} (h : KS A g sz first acked u false) {c : Nat} (hc : c ≤ acked.length) {R : Int × AD × AL} (hR : resetA A g (first + (c : Int)) = R) (hok' : R.2.1.Ok) :
    R.1 = 0 ∧ R.2.2.next = g.next ∧ R.2.2.dead = false ∧ KS R.2.1 R.2.2 sz (first + (c : Int)) (acked.drop c) u false := by
  obtain ⟨hoff, hopn, n0, b, pss, hk⟩ := h.calm rfl
  have hal := h.alen
  obtain ⟨r0, hp, hn, n0', b', pss', hk'⟩ := reset_kn hoff hk (n := first + (c : Int)) (by omega) (by omega) hR
  rw [show (first + (c : Int) - first).toNat = c by omega] at hk'
  exact ⟨r0, hn, hk'.dead, KS.mk' hk' hok' (by rw [hp]; exact hoff) (by rw [hp]; exact hopn) u⟩
/-- Behind a crash the log's disk is on and calm, and what Open finds is known. -/
theorem ks_crash {A : AD} {g : AL} {sz first : Int} {acked : List Key} {u : Key} {way : Bool} (h : KS A g sz first acked u way) (ls : List AFate) : ∃ fs', (A.crash ls).on = ⟨A.cap, fs', p0⟩ ∧ Af fs' first g.next acked (if way = true then some u else none) (forgedL ls) := by
  cases way with
  | true => exact (h.wayc rfl).crash ls
  | false =>
    obtain ⟨hoff, hopn, n0, b, pss, hk⟩ := h.calm rfl
    exact ⟨A.fs, back_cl hk.dk.all (fun e => by rw [hoff] at e; cases e) ls, hk.af _ _⟩
end Go.Proofs.YtdffmmiegpndkaaGreatDoor
/-
  first(): the document's example holds.
-/
namespace Go.Proofs.YtdffmmiegpndkaaGreatDoor
open Go.RowKit Go.Maps
set_option linter.unusedVariables false
set_option linter.unusedSimpArgs false
theorem n_new {B : Nat} {w : World} {L : List Item} (h : Lies B w L) (cap : Int) (h0 : 0 ≤ cap) (h1 : cap ≤ 16777216) : Calls Tryz.prog 4 #[.int .i64 cap] w fun e w' => ∃ p, e = .returned (.tuple #[.pointer (some ⟨p, 0, none⟩), .int .i64 0]) ∧ Lies B w' (L ++ [.disk p (AD.fresh cap)]) ∧ Below B w w' := by
  refine (new_good w cap h0 h1).mono ?_
  rintro e w' ⟨rfl, hd, hb⟩
  refine ⟨_, rfl, h.push (S' := foot (w.heap.size + 1) w.heap.size (fun _ => FC.void) (AD.fresh cap).fs) hb ⟨w.heap.size, _, hd, fun _ => Iff.rfl⟩ ?_, hb.mono h.base⟩
  rintro b (rfl | rfl | ⟨k, F, hk, _⟩)
  · exact Nat.le_succ _
  · exact Nat.le_refl _
  · simp [AD.fresh, fget] at hk
theorem open_some {B : Nat} {w : World} {L : List Item} {i p : Nat} {A A' : AD} {g : AL} {ks : List Key} (h : Lies B w L) (hi : L[i]? = some (.disk p A)) (he : Env B w) (nm : ByteArray) (hn : nm.size ≤ 140737488355328) (sz first : Int) (hs : -9223372036854775808 ≤ sz ∧ sz ≤ 9223372036854775807) (hf : -9223372036854775808 ≤ first ∧ first ≤ 9223372036854775807) (hR : openA A nm sz first = ⟨some g, ks, 0, A'⟩) :
    Calls Tryz.prog 6 #[.pointer (some ⟨p, 0, none⟩), .string nm, .int .i64 sz, .int .i64 first] w fun e w' => ∃ l ad cap, e = .returned (.tuple #[.pointer (some ⟨l, 0, none⟩), .slice ad ks.length cap, .int .i64 0]) ∧ RowAt w' ad (ks.map encStr) ∧ Lies B w' (L.set i (.disk p A') ++ [.log l p g, .sub (.slice ad ks.length cap) ks]) ∧ Below B w w' := by
  refine (open_any h hi he nm hn sz first hs hf _ rfl).mono ?_
  rintro e w' ⟨h1, hb⟩
  rw [hR] at h1
  obtain ⟨l, v, rfl, hl⟩ := h1
  obtain ⟨ad, cap, rfl, hr, _⟩ := hl.subAt (q := (L.set i (.disk p A')).length + 1) (by rw [get_tail]; rfl)
  exact ⟨l, ad, cap, rfl, hr, hl, hb⟩
theorem open_none {B : Nat} {w : World} {L : List Item} {i p : Nat} {A A' : AD} {c : Int} (h : Lies B w L) (hi : L[i]? = some (.disk p A)) (he : Env B w) (nm : ByteArray) (hn : nm.size ≤ 140737488355328) (sz first : Int) (hs : -9223372036854775808 ≤ sz ∧ sz ≤ 9223372036854775807) (hf : -9223372036854775808 ≤ first ∧ first ≤ 9223372036854775807) (hR : openA A nm sz first = ⟨none, [], c, A'⟩) :
    Calls Tryz.prog 6 #[.pointer (some ⟨p, 0, none⟩), .string nm, .int .i64 sz, .int .i64 first] w fun e w' => e = .returned (.tuple #[.pointer none, .slice none 0 0, .int .i64 c]) ∧ Lies B w' (L.set i (.disk p A')) ∧ Below B w w' := by
  refine (open_any h hi he nm hn sz first hs hf _ rfl).mono ?_
  rintro e w' ⟨h1, hb⟩
  rw [hR] at h1
  exact ⟨h1.1, h1.2, hb⟩
theorem rng0 (x : Int) (h : -1000 ≤ x ∧ x ≤ 1000) : -9223372036854775808 ≤ x ∧ x ≤ 9223372036854775807 := by omega
set_option maxRecDepth 100000 in
set_option maxHeartbeats 8000000 in
theorem wfirst_any {B : Nat} (w : World) (he0 : Env B w) (hB : B ≤ w.heap.size) : Calls Tryz.prog 5 #[] w fun e w' => e = .returned (.bool true) ∧ Below w.heap.size w w' := by
  have he : Env w.heap.size w := ⟨he0.tab, he0.syn, he0.rng, Nat.le_trans he0.low hB⟩
  obtain ⟨b, hb⟩ : ∃ b, w.heap.size = b := ⟨_, rfl⟩
  rw [hb] at he ⊢
  have hl0 : Lies b w [] := Lies.nil (Nat.le_of_eq hb.symm)
  have HENV := hide he
  have HNEW := hide (n_new hl0 100000 (by decide) (by decide))
  obtain ⟨A0, hA0⟩ : ∃ x, fA0 = x := ⟨_, rfl⟩
  obtain ⟨A1, hA1⟩ : ∃ x, fR1.2.1 = x := ⟨_, rfl⟩
  obtain ⟨G1, hG1⟩ : ∃ x, fR1.2.2 = x := ⟨_, rfl⟩
  obtain ⟨A2, hA2⟩ : ∃ x, fR2.2.1 = x := ⟨_, rfl⟩
  obtain ⟨G2, hG2⟩ : ∃ x, fR2.2.2 = x := ⟨_, rfl⟩
  obtain ⟨A4, hA4⟩ : ∃ x, fR4.2.2.1 = x := ⟨_, rfl⟩
  obtain ⟨G4, hG4⟩ : ∃ x, fR4.2.2.2 = x := ⟨_, rfl⟩
  obtain ⟨A5, hA5⟩ : ∃ x, fR5.2.1 = x := ⟨_, rfl⟩
  obtain ⟨G5, hG5⟩ : ∃ x, fR5.2.2 = x := ⟨_, rfl⟩
  obtain ⟨A6, hA6⟩ : ∃ x, fR6.2.2.1 = x := ⟨_, rfl⟩
  obtain ⟨G6, hG6⟩ : ∃ x, fR6.2.2.2 = x := ⟨_, rfl⟩
  obtain ⟨g1, hg1⟩ : ∃ x, fg1 = x := ⟨_, rfl⟩
  have HO1 : Hid (openA A0 ⟨#[108, 111, 103]⟩ 64 0 = ⟨some g1, [], 0, A0⟩) := by show _ = _; rw [← hA0, ← hg1]; exact f_open1
  have HR1 : Hid (appA A0 g1 ⟨#[97]⟩ = (0, A1, G1)) := by show _ = _; rw [← hA0, ← hg1, ← hA1, ← hG1]; exact Prod.ext f_err.1 rfl
  have HR2 : Hid (appA (A1.fallen 2) G1 ⟨#[98]⟩ = (9, A2, G2)) := by show _ = _; rw [← hA1, ← hG1, ← hA2, ← hG2]; exact Prod.ext f_err.2.1 rfl
  have HO3 : Hid (openA (A2.crash []).on ⟨#[108, 111, 103]⟩ 64 0 = ⟨some G4, [[97]], 0, A4⟩) := by show _ = _; rw [← hA2, ← hA4, ← hG4]; exact f_open3
  have HR5 : Hid (appA A4 G4 ⟨#[99]⟩ = (0, A5, G5)) := by show _ = _; rw [← hA4, ← hG4, ← hA5, ← hG5]; exact Prod.ext f_err.2.2.2.1 rfl
  have HO6 : Hid (openA A5 ⟨#[108, 111, 103]⟩ 64 1 = ⟨some G6, [[99]], 0, A6⟩) := by show _ = _; rw [← hA5, ← hA6, ← hG6]; exact f_open5
  have HF1 : Hid g1.Fit := by show AL.Fit _; rw [← hg1]; exact AL.fit_of f_fits.1
  have HF2 : Hid G1.Fit := by show AL.Fit _; rw [← hG1]; exact AL.fit_of f_fits.2.1
  have HF4 : Hid G4.Fit := by show AL.Fit _; rw [← hG4]; exact AL.fit_of f_fits.2.2.1
  have HF5 : Hid G5.Fit := by show AL.Fit _; rw [← hG5]; exact AL.fit_of f_fits.2.2.2
  have HNX : Hid (G4.next = 1) := by show _ = _; rw [← hG4]; exact f_pay.2.2
  have HNM : Hid (G5.files = [[108, 111, 103, 46, 48], [108, 111, 103, 46, 49]]) := by show _ = _; rw [← hG5]; exact f_names
  have HA0 : Hid (AD.fresh 100000 = A0) := by show _ = _; rw [← hA0]; rfl
  clear hA0 hA1 hG1 hA2 hG2 hA4 hG4 hA5 hG5 hA6 hG6 hg1 hl0 he he0
  go_enter Tryz.func5, Tryz.ntmps5
  go_wp2_with fail
  refine (HNEW.out).mono ?_
  rintro e w1 ⟨p, rfl, hl1, hb1⟩
  rw [HA0.out] at hl1
  change Lies b w1 [.disk p A0] at hl1
  have HB1 := hide hb1
  have HC := hide (open_some hl1 (i := 0) rfl (HENV.out.below hb1) ⟨#[108, 111, 103]⟩ (by decide) 64 0 (by omega) (by omega) HO1.out)
  clear hl1 hb1
  go_wp2_with fail
  refine (HC.out).mono ?_
  rintro e w2 ⟨l1, ad1, cap1, rfl, _, hl2, hb2⟩
  change Lies b w2 [.disk p A0, .log l1 p g1, .sub (.slice ad1 0 cap1) []] at hl2
  have hbb2 := HB1.out.trans hb2
  have HB2 := hide hbb2
  have HC2 := hide (append_any hl2 (i := 0) (j := 1) rfl rfl (by decide) (HENV.out.below hbb2) HF1.out ⟨#[97]⟩ _ HR1.out)
  clear hl2 hb2 hbb2
  simp only [List.length_nil]
  go_wp2_with fail
  refine (HC2.out).mono ?_
  rintro e w3 ⟨rfl, hl3, hb3⟩
  change Lies b w3 [.disk p A1, .log l1 p G1, .sub (.slice ad1 0 cap1) []] at hl3
  have HB3 := hide (HB2.out.trans hb3)
  have HC3 := hide (s_fall hl3 (i := 0) rfl 2 (by omega))
  clear hl3 hb3
  go_wp2_with fail
  refine (HC3.out).mono ?_
  rintro e w4 ⟨rfl, hl4, hb4⟩
  change Lies b w4 [.disk p (A1.fallen 2), .log l1 p G1, .sub (.slice ad1 0 cap1) []] at hl4
  have hbb4 := HB3.out.trans hb4
  have HB4 := hide hbb4
  have HC4 := hide (append_any hl4 (i := 0) (j := 1) rfl rfl (by decide) (HENV.out.below hbb4) HF2.out ⟨#[98]⟩ _ HR2.out)
  clear hl4 hb4 hbb4
  go_wp2_with fail
  refine (HC4.out).mono ?_
  rintro e w5 ⟨rfl, hl5, hb5⟩
  change Lies b w5 [.disk p A2, .log l1 p G2, .sub (.slice ad1 0 cap1) []] at hl5
  have HB5 := hide (HB4.out.trans hb5)
  have HC5 := hide (s_crash0 hl5 (i := 0) rfl)
  clear hl5 hb5
  go_wp2_with fail
  refine (HC5.out).mono ?_
  rintro e w6 ⟨rfl, hl6, hb6⟩
  change Lies b w6 [.disk p (A2.crash []), .log l1 p G2, .sub (.slice ad1 0 cap1) []] at hl6
  have HB6 := hide (HB5.out.trans hb6)
  have HC6 := hide (s_on hl6 (i := 0) rfl)
  clear hl6 hb6
  go_wp2_with fail
  refine (HC6.out).mono ?_
  rintro e w7 ⟨rfl, hl7, hb7⟩
  change Lies b w7 [.disk p (A2.crash []).on, .log l1 p G2, .sub (.slice ad1 0 cap1) []] at hl7
  have hbb7 := HB6.out.trans hb7
  have HB7 := hide hbb7
  have HC7 := hide (open_some hl7 (i := 0) rfl (HENV.out.below hbb7) ⟨#[108, 111, 103]⟩ (by decide) 64 0 (by omega) (by omega) HO3.out)
  clear hl7 hb7 hbb7
  go_wp2_with fail
  refine (HC7.out).mono ?_
  rintro e w8 ⟨l2, ad2, cap2, rfl, hr8, hl8, hb8⟩
  change Lies b w8 [.disk p A4, .log l1 p G2, .sub (.slice ad1 0 cap1) [], .log l2 p G4, .sub (.slice ad2 1 cap2) [[97]]] at hl8
  have HB8 := hide (HB7.out.trans hb8)
  have HL8 := hide hl8
  have HR8 := hide hr8
  clear hl8 hb8 hr8
  go_wp2_with fail
  have hx9 : Below w8.heap.size w8 (w8.alloc (.cells #[.string ⟨#[97]⟩] 9)) := (Below.refl _ _).alloc (Nat.le_refl _) _
  have hy9 : RowAt (w8.alloc (.cells #[.string ⟨#[97]⟩] 9)) ad2 (([[97]] : List Key).map encStr) := HR8.out.same (Turn.of_below hx9 (fun _ => False)) (fun _ _ _ => id)
  have hz9 : RowAt (w8.alloc (.cells #[.string ⟨#[97]⟩] 9)) (some ⟨w8.heap.size, 0, none⟩) (([[97]] : List Key).map encStr) := .inr ⟨_, 0, rfl, by simp, fun i hi => by
    rw [cell_of_row _ w8.heap.size _ _ _ (0, 0) (heap_alloc_new w8 _)]
    have hi' : i < 1 := hi
    match i, hi' with
    | 0, _ => rfl⟩
  refine (sameTexts_any _ ad2 _ cap2 1 [[97]] [[97]] hy9 hz9 (by decide) (by decide)).mono ?_
  rintro e w9 ⟨rfl, hw9⟩
  rw [show (([[97]] : List Key) == [[97]]) = true by decide]
  have hl9 := (HL8.out.below hx9).below hw9
  have hbb9 := HB8.out.trans ((hx9.mono HL8.out.base).trans (hw9.mono (HL8.out.below hx9).base))
  have HL9 := hide hl9
  have HB9 := hide hbb9
  have hnx := wnext_any hl9 (j := 3) rfl
  rw [HNX.out] at hnx
  have HC9 := hide hnx
  clear hx9 hy9 hz9 hw9 hl9 hbb9 hnx
  go_wp2_with fail
  refine (HC9.out).mono ?_
  rintro e w10 ⟨rfl, rfl⟩
  have HC10 := hide (append_any HL9.out (i := 0) (j := 3) rfl rfl (by decide) (HENV.out.below HB9.out) HF4.out ⟨#[99]⟩ _ HR5.out)
  go_wp2_with fail
  refine (HC10.out).mono ?_
  rintro e w11 ⟨rfl, hl11, hb11⟩
  change Lies b w11 [.disk p A5, .log l1 p G2, .sub (.slice ad1 0 cap1) [], .log l2 p G5, .sub (.slice ad2 1 cap2) [[97]]] at hl11
  have hbb11 := HB9.out.trans hb11
  have HB11 := hide hbb11
  have HC11 := hide (names_any hl11 (j := 3) rfl ⟨HF5.out.name, fun s hs => by have := HF5.out.segs s hs; omega, HF5.out.len⟩ (HENV.out.below hbb11))
  clear hl11 hb11 hbb11
  go_wp2_with fail
  refine (HC11.out).mono ?_
  rintro e w12 ⟨v, rfl, hl12, hb12⟩
  rw [HNM.out] at hl12
  have hrow := hl12.rowOf (i := 5) (e := 9) (v := v) (xs := ([[108, 111, 103, 46, 48], [108, 111, 103, 46, 49]] : List Key).map encStr) rfl
  obtain ⟨ad3, cap3, hv, hr12, _, _⟩ := row_at hrow
  change v = .slice ad3 2 cap3 at hv
  subst hv
  change Lies b w12 [.disk p A5, .log l1 p G2, .sub (.slice ad1 0 cap1) [], .log l2 p G5, .sub (.slice ad2 1 cap2) [[97]], .row 9 (.slice ad3 2 cap3) (([[108, 111, 103, 46, 48], [108, 111, 103, 46, 49]] : List Key).map encStr)] at hl12
  have hbb12 := HB11.out.trans hb12
  have HB12 := hide hbb12
  have HC12 := hide (open_some hl12 (i := 0) rfl (HENV.out.below hbb12) ⟨#[108, 111, 103]⟩ (by decide) 64 1 (by omega) (by omega) HO6.out)
  clear hl12 hb12 hbb12 hrow hr12
  go_wp2_with fail
  refine (HC12.out).mono ?_
  rintro e w13 ⟨l3, ad4, cap4, rfl, hr13, hl13, hb13⟩
  change Lies b w13 [.disk p A6, .log l1 p G2, .sub (.slice ad1 0 cap1) [], .log l2 p G5, .sub (.slice ad2 1 cap2) [[97]], .row 9 (.slice ad3 2 cap3) (([[108, 111, 103, 46, 48], [108, 111, 103, 46, 49]] : List Key).map encStr), .log l3 p G6, .sub (.slice ad4 1 cap4) [[99]]] at hl13
  have HB13 := hide (HB12.out.trans hb13)
  have HL13 := hide hl13
  have HR13 := hide hr13
  clear hl13 hb13 hr13
  go_wp2_with fail
  have hx14 : Below w13.heap.size w13 (w13.alloc (.cells #[.string ⟨#[99]⟩] 9)) := (Below.refl _ _).alloc (Nat.le_refl _) _
  have hy14 : RowAt (w13.alloc (.cells #[.string ⟨#[99]⟩] 9)) ad4 (([[99]] : List Key).map encStr) := HR13.out.same (Turn.of_below hx14 (fun _ => False)) (fun _ _ _ => id)
  have hz14 : RowAt (w13.alloc (.cells #[.string ⟨#[99]⟩] 9)) (some ⟨w13.heap.size, 0, none⟩) (([[99]] : List Key).map encStr) := .inr ⟨_, 0, rfl, by simp, fun i hi => by
    rw [cell_of_row _ w13.heap.size _ _ _ (0, 0) (heap_alloc_new w13 _)]
    have hi' : i < 1 := hi
    match i, hi' with
    | 0, _ => rfl⟩
  refine (sameTexts_any _ ad4 _ cap4 1 [[99]] [[99]] hy14 hz14 (by decide) (by decide)).mono ?_
  rintro e w14 ⟨rfl, hw14⟩
  rw [show (([[99]] : List Key) == [[99]]) = true by decide]
  have hl14 := (HL13.out.below hx14).below hw14
  have hbb14 := HB13.out.trans ((hx14.mono HL13.out.base).trans (hw14.mono (HL13.out.below hx14).base))
  have HL14 := hide hl14
  have HB14 := hide hbb14
  have hrow := hl14.rowOf (i := 5) (e := 9) (v := .slice ad3 2 cap3) (xs := ([[108, 111, 103, 46, 48], [108, 111, 103, 46, 49]] : List Key).map encStr) rfl
  obtain ⟨ad5, cap5, hv, hr14, _, _⟩ := row_at hrow
  cases hv
  have HR14 := hide hr14
  clear hx14 hy14 hz14 hw14 hl14 hbb14 hrow hr14
  go_wp2_with fail
  have hx15 : Below w14.heap.size w14 (w14.alloc (.cells #[.string ⟨#[108, 111, 103, 46, 48]⟩, .string ⟨#[108, 111, 103, 46, 49]⟩] 9)) := (Below.refl _ _).alloc (Nat.le_refl _) _
  have hy15 : RowAt (w14.alloc (.cells #[.string ⟨#[108, 111, 103, 46, 48]⟩, .string ⟨#[108, 111, 103, 46, 49]⟩] 9)) ad3 (([[108, 111, 103, 46, 48], [108, 111, 103, 46, 49]] : List Key).map encStr) := HR14.out.same (Turn.of_below hx15 (fun _ => False)) (fun _ _ _ => id)
  have hz15 : RowAt (w14.alloc (.cells #[.string ⟨#[108, 111, 103, 46, 48]⟩, .string ⟨#[108, 111, 103, 46, 49]⟩] 9)) (some ⟨w14.heap.size, 0, none⟩) (([[108, 111, 103, 46, 48], [108, 111, 103, 46, 49]] : List Key).map encStr) := .inr ⟨_, 0, rfl, by simp, fun i hi => by
    rw [cell_of_row _ w14.heap.size _ _ _ (0, 0) (heap_alloc_new w14 _)]
    have hi' : i < 2 := hi
    match i, hi' with
    | 0, _ => rfl
    | 1, _ => rfl⟩
  refine (sameTexts_any _ ad3 _ cap3 2 [[108, 111, 103, 46, 48], [108, 111, 103, 46, 49]] [[108, 111, 103, 46, 48], [108, 111, 103, 46, 49]] hy15 hz15 (by decide) (by decide)).mono ?_
  rintro e w15 ⟨rfl, hw15⟩
  rw [show (([[108, 111, 103, 46, 48], [108, 111, 103, 46, 49]] : List Key) == [[108, 111, 103, 46, 48], [108, 111, 103, 46, 49]]) = true by decide]
  have hl15 := (HL14.out.below hx15).below hw15
  have hbb15 := HB14.out.trans ((hx15.mono HL14.out.base).trans (hw15.mono (HL14.out.below hx15).base))
  have HB15 := hide hbb15
  clear hx15 hy15 hz15 hw15 hl15 hbb15
  go_wp2
  go_ret
  exact ⟨rfl, HB15.out⟩
end Go.Proofs.YtdffmmiegpndkaaGreatDoor
