/-
  Copy of a disk.
-/
import Derived.Test.YtcmhfpiglacdaaaGreatCopyF
namespace Go.Proofs.YtcmhfpiglacdaaaGreat
open Go.RowKit Go.Maps Go.WideMaps
set_option linter.unusedSimpArgs false
set_option linter.unusedVariables false
theorem run_makeMap_hint (w : World) (k : Int) : (Instr.makeMap 38 (some (.int .i64 k))).run Tryz.prog w = .ok (.map (some w.heap.size)) (w.alloc (.map #[] 0)) := by
  simp [Instr.makeMap, run_underlying Tryz.underlying38, asInt, asIntOf, Result.andThen]
theorem fsD_canon (con : Key → FC) {fs : FList} (h : fs.Pairwise (fun p q => bytesBefore p.1 q.1 = true)) : Canon (fsD con fs) := by
  refine ⟨_, rfl, ?_, fun p hp => ?_⟩
  · rw [List.pairwise_map]
    exact h.imp (fun {a b} hab => hab)
  · obtain ⟨q, _, rfl⟩ := List.mem_map.1 hp
    exact trivial
theorem fsD_has_lit (con con' : Key → FC) (fs : FList) (kl : Lit) : Maps.has (fsD con fs) kl = Maps.has (fsD con' fs) kl := by
  unfold fsD
  rw [Maps.has_eq, Maps.has_eq, List.any_map, List.any_map]
  rfl
theorem nodup_sub {α : Type} [DecidableEq α] : ∀ {l m : List α}, l.Nodup → (∀ x ∈ l, x ∈ m) → l.length ≤ m.length
  | [], _, _, _ => Nat.zero_le _
  | a :: l, m, h, hs => by
    obtain ⟨h1, h2⟩ := List.nodup_cons.1 h
    have ha := hs a (by simp)
    have ih := nodup_sub (m := m.erase a) h2 (fun x hx => (List.mem_erase_of_ne (fun e : x = a => h1 (e ▸ hx))).2 (hs x (by simp [hx])))
    have hl := List.length_erase_of_mem ha
    have := List.length_pos_of_mem ha
    simp only [List.length_cons]
    omega
/-- What has been copied so far. -/
structure Copying (w : World) (m m2 : Nat) (con con2 : Key → FC) (fs : FList) (left : Lit → Bool) (D : DataW Unit) (wr : World) : Prop where
  own : ∃ n, n ≤ 16 ∧ wr.ownsMap Tryz.prog 9 ptrElem m2 n D
  has : ∀ kl, Maps.has D kl = (Maps.has (fsD con fs) kl && !left kl)
  at_ : ∀ k F z, fget fs k = some F → left (.string k) = false → D.atKey (.string k) z = .lit (.int .i64 ((con2 k).g : Int))
  file : ∀ k F, fget fs k = some F → left (.string k) = false → FileAt wr (con2 k) F
  new : ∀ k F, fget fs k = some F → left (.string k) = false → ∀ b, (con2 k).has b → w.heap.size ≤ b
  nm2 : ∀ k F, fget fs k = some F → left (.string k) = false → ¬ (con2 k).has m2
  apart : ∀ k F k' F', fget fs k = some F → left (.string k) = false → fget fs k' = some F' → left (.string k') = false → k ≠ k' → ∀ b, (con2 k).has b → ¬ (con2 k').has b
  le : w.heap.size ≤ m2
theorem Copying.start {w : World} {m : Nat} {con : Key → FC} {fs : FList} {wr : World} {m2 : Nat} (ho : wr.ownsMap Tryz.prog 9 ptrElem m2 0 (.map [])) (hm : w.heap.size ≤ m2) : Copying w m m2 con con fs (Maps.has (fsD con fs)) (.map []) wr := by
  have no : ∀ k F, fget fs k = some F → ¬ Maps.has (fsD con fs) (.string k) = false := fun k F hk h => by rw [fsD_has, hk] at h; cases h
  refine ⟨⟨0, by omega, ho⟩, fun kl => ?_, fun k F z hk hl => absurd hl (no k F hk), fun k F hk hl => absurd hl (no k F hk), fun k F hk hl => absurd hl (no k F hk), fun k F hk hl => absurd hl (no k F hk), fun k F k' F' hk hl => absurd hl (no k F hk), hm⟩
  cases Maps.has (fsD con fs) kl <;> rfl
theorem Copying.turn {w : World} {m m2 : Nat} {con con2 : Key → FC} {fs : FList} {left : Lit → Bool} {D : DataW Unit} {wr wx : World} (h : Copying w m m2 con con2 fs left D wr) (e : ∀ b, b < wr.heap.size → (b = m2 ∨ ∃ k F, fget fs k = some F ∧ left (.string k) = false ∧ (con2 k).has b) → wx.heap[b]? = wr.heap[b]?) : Copying w m m2 con con2 fs left D wx := by
  obtain ⟨n, hn, ho⟩ := h.own
  exact ⟨⟨n, hn, ownsMap_same ho (e m2 ho.lt (.inl rfl))⟩, h.has, h.at_, fun k F hk hl => (h.file k F hk hl).same (fun b hb => e b ((h.file k F hk hl).lt b hb) (.inr ⟨k, F, hk, hl, hb⟩)), h.new, h.nm2, h.apart, h.le⟩
theorem Copying.step {w : World} {m m2 : Nat} {con con2 : Key → FC} {fs : FList} {left : Lit → Bool} {D : DataW Unit} {wr wy : World} {k : Key} {F : AF} {c : FC} {n : Nat} (h : Copying w m m2 con con2 fs left D wr) (hk : fget fs k = some F) (hlk : left (.string k) = true) (hf : FileAt wy c F) (hnew : ∀ b, c.has b → wr.heap.size ≤ b) (hwr : w.heap.size ≤ wr.heap.size)
    (hs : fs.length ≤ 16) (hown : wy.ownsMap Tryz.prog 9 ptrElem m2 n (D.put (.string k) (.lit (.int .i64 (c.g : Int))))) (t : ∀ b, b < wr.heap.size → b ≠ m2 → wy.heap[b]? = wr.heap[b]?) (hsorted : fs.Pairwise (fun p q => bytesBefore p.1 q.1 = true)) :
    Copying w m m2 con (upd con2 k c) fs (fun z => left z && !z.sameKey (.string k)) (D.put (.string k) (.lit (.int .i64 (c.g : Int)))) wy := by
  obtain ⟨n0, hn0, ho0⟩ := h.own
  have hm2l := ho0.lt
  have lk : ∀ x : Key, (left (.string x) && !(Lit.string x).sameKey (.string k)) = false → x = k ∨ (x ≠ k ∧ left (.string x) = false) := fun x hx => by
    by_cases e : x = k
    · exact .inl e
    · refine .inr ⟨e, ?_⟩
      have : (Lit.string x).sameKey (.string k) = false := by simp [Lit.sameKey, e]
      rw [this] at hx
      simpa using hx
  have hisM : IsMap D := ho0.isMap
  have hhas : ∀ kl, Maps.has (D.put (.string k) (.lit (.int .i64 (c.g : Int)))) kl = (Maps.has (fsD con fs) kl && !(left kl && !kl.sameKey (.string k))) := fun kl => by
    by_cases e : kl = .string k
    · subst e
      rw [has_put_same hisM (by trivial), fsD_has, hk]
      simp [Lit.sameKey]
    · rw [has_put_other e, h.has kl]
      have : kl.sameKey (.string k) = false := sameKey_ne e
      rw [this]
      simp
  refine ⟨⟨16, Nat.le_refl _, ownsMap_exact hown ?_⟩, hhas, fun x G z hx hl => ?_, fun x G hx hl => ?_, fun x G hx hl b hb => ?_, fun x G hx hl hb => ?_, fun x G y G' hx hl hy hl' hxy b hb hb' => ?_, h.le⟩
  · -- its keys are names of files
    obtain ⟨es, hes, hel⟩ := ownsMap_elems hown
    have hc := hown.canon law9
    obtain ⟨es', he', hp', _⟩ := hc
    rw [he'] at hes
    have e1 : es' = es := by cases hes; rfl
    subst e1
    rw [he']
    show es'.length ≤ 16
    have hnd : (es'.map (·.1)).Nodup := by
      rw [List.Nodup, List.pairwise_map]
      exact apart_of_rising hp'
    have hsub : ∀ x ∈ es'.map (·.1), x ∈ fs.map (fun p => Lit.string p.1) := fun x hx => by
      obtain ⟨q, hq, rfl⟩ := List.mem_map.1 hx
      have hk1 : Maps.has (D.put (.string k) (.lit (.int .i64 (c.g : Int)))) q.1 = true := by
        rw [he']
        exact List.any_eq_true.2 ⟨q, hq, WideAt.sameKey_self (by obtain ⟨⟨v, hv⟩, _⟩ := hel q hq; exact law9.key hv)⟩
      rw [hhas] at hk1
      have hk2 := (Bool.and_eq_true_iff.1 hk1).1
      obtain ⟨y, hy, hyk⟩ := List.any_eq_true.1 hk2
      obtain ⟨f, hf', rfl⟩ := List.mem_map.1 hy
      have := WideAt.sameKey_eq hyk
      exact List.mem_map.2 ⟨f, hf', this⟩
    have := @nodup_sub Lit (fun a b => Classical.propDecidable (a = b)) _ _ hnd hsub
    simp at this
    omega
  · rcases lk x hl with rfl | ⟨e, hl⟩
    · rw [upd_same, atKey_put_same hisM (by trivial)]
    · rw [upd_ne _ _ e, atKey_put_other (fun q => e (by cases q; rfl))]
      exact h.at_ x G z hx hl
  · rcases lk x hl with rfl | ⟨e, hl⟩
    · rw [upd_same]
      have : F = G := by rw [hk] at hx; simpa using hx
      exact this ▸ hf
    · rw [upd_ne _ _ e]
      have hfx := h.file x G hx hl
      exact hfx.same (fun b hb => t b (hfx.lt b hb) (fun q => h.nm2 x G hx hl (q ▸ hb)))
  · rcases lk x hl with rfl | ⟨e, hl⟩
    · rw [upd_same] at hb; exact Nat.le_trans hwr (hnew b hb)
    · rw [upd_ne _ _ e] at hb; exact h.new x G hx hl b hb
  · rcases lk x hl with rfl | ⟨e, hl⟩
    · rw [upd_same] at hb; have := hnew _ hb; omega
    · rw [upd_ne _ _ e] at hb; exact h.nm2 x G hx hl hb
  · rcases lk x hl with ex | ⟨e, hl⟩
    · rcases lk y hl' with ey | ⟨e', hl'⟩
      · exact hxy (ex.trans ey.symm)
      · rw [ex, upd_same] at hb
        rw [upd_ne _ _ e'] at hb'
        have := hnew b hb
        have := (h.file y G' hy hl').lt b hb'
        omega
    · rw [upd_ne _ _ e] at hb
      rcases lk y hl' with ey | ⟨e', hl'⟩
      · rw [ey, upd_same] at hb'
        have := hnew b hb'
        have := (h.file x G hx hl).lt b hb
        omega
      · rw [upd_ne _ _ e'] at hb'
        exact h.apart x G y G' hx hl hy hl' hxy b hb hb'
theorem Copying.done {w : World} {m m2 : Nat} {con con2 : Key → FC} {fs : FList} {left : Lit → Bool} {D : DataW Unit} {wr : World} (h : Copying w m m2 con con2 fs left D wr) (hl : ∀ kl, left kl = false) (hs : fs.Pairwise (fun p q => bytesBefore p.1 q.1 = true)) : wr.ownsMap Tryz.prog 9 ptrElem m2 16 (fsD con2 fs) := by
  obtain ⟨n, hn, ho⟩ := h.own
  have e : D = fsD con2 fs := by
    refine Maps.ext (ho.canon law9) (fsD_canon con2 hs) (fun kl => ?_) (fun kl z hk => ?_)
    · rw [h.has kl, hl, fsD_has_lit con con2]; simp
    · rw [h.has kl, hl] at hk
      simp only [Bool.not_false, Bool.and_true] at hk
      obtain ⟨p, hp, hpk⟩ := List.any_eq_true.1 hk
      obtain ⟨q, hq, rfl⟩ := List.mem_map.1 hp
      have ek : kl = .string q.1 := (WideAt.sameKey_eq hpk).symm
      subst ek
      have hg := mem_fget (apart_of hs) hq
      rw [h.at_ q.1 q.2 z hg (hl _), fsD_at hg]
  subst e
  exact ho.mono hn
set_option maxRecDepth 5000 in
set_option maxHeartbeats 1000000 in
theorem copy_any (p m : Nat) (con : Key → FC) (A : AD) (w : World) (h : DiskAt w p m con A) :
    Calls Tryz.prog 21 #[.pointer (some ⟨p, 0, none⟩)] w fun e w' => ∃ p2 m2 con2, e = .returned (.pointer (some ⟨p2, 0, none⟩)) ∧ DiskAt w' p2 m2 con2 A ∧ (∀ b, foot p2 m2 con2 A.fs b → w.heap.size ≤ b) ∧ Below w.heap.size w w' := by
  have HH := hide h
  have hmk := run_makeMap_hint
  have c1 := h.c1
  have hln : ∀ ty, (Builtin.len_ #[38] ty #[.map (some m)]).run Tryz.prog w = .ok (.int .i64 (A.fs.length : Int)) w := fun ty => by rw [h.files.len Tryz.underlying38 ty, fsD_size]
  have hfew := h.ok.few
  have hsort := h.ok.sorted
  have hpl := lt_of_some h.cells
  have hml := h.files.lt
  obtain ⟨m2, hm2⟩ : ∃ m2, w.heap.size = m2 := ⟨_, rfl⟩
  obtain ⟨w1, hw1⟩ : ∃ w1, w.alloc (.map #[] 0) = w1 := ⟨_, rfl⟩
  have hmk1 : (Instr.makeMap 38 (some (.int .i64 (A.fs.length : Int)))).run Tryz.prog w = .ok (.map (some m2)) w1 := by rw [← hm2, ← hw1]; exact hmk w _
  have hown2 : w1.ownsMap Tryz.prog 9 ptrElem m2 0 (.map []) := by rw [← hw1, ← hm2]; exact World.ownsMap_made w Tryz.prog 9 ptrElem
  have hb1 : Below w.heap.size w w1 := by rw [← hw1]; exact (Below.refl _ _).alloc (Nat.le_refl _) _
  have hs1 : w1.heap.size = m2 + 1 := by rw [← hw1, ← hm2]; simp
  have hD1 : DiskAt w1 p m con A := h.same (fun b hb => hb1.block b (h.lt b hb))
  have d1 : w1.cell? ⟨p, 1, none⟩ = some (.map (some m)) := hD1.c1
  have HO1 := hide hown2
  have HB1 := hide hb1
  have HD1 := hide hD1
  have HS1 := hide hs1
  have HM2 := hide hm2
  clear hown2 hb1 hD1 hs1 hw1 h hmk hm2
  go_enter Tryz.func21, Tryz.ntmps21
  go_wp2_with (first | (at_range; refine wpList_range_files _ rfl _ rfl con A.fs m (by rfl) HD1.out.files ?_; intro w2 hrg2 hb2 hlt2) | go_in)
  try go_frame
  obtain ⟨r, hr⟩ : ∃ r, w1.heap.size = r := ⟨_, rfl⟩
  rw [hr] at hrg2 hb2 hlt2 ⊢
  have hrm : m2 < r := by rw [← hr, HS1.out]; omega
  have hmr : m < r := by rw [← hr, HS1.out, ← HM2.out]; omega
  have hbw2 : Below w.heap.size w w2 := HB1.out.trans (hb2.mono (by rw [← hr]; exact HB1.out.size))
  have hcs : Copying w m m2 con con A.fs (Maps.has (fsD con A.fs)) (.map []) w2 := Copying.start (ownsMap_same HO1.out (hb2.block m2 hrm)) (by rw [HM2.out]; exact Nat.le_refl _)
  have HRE := hide hr
  clear hr c1 d1 hmk1 hln
  go_loopw [4] (fun _ wr => ∃ left cnt con2 D, wr.ranges Tryz.prog 9 ptrElem m r 16 (fsD con A.fs) left cnt ∧ Copying w m m2 con con2 A.fs left D wr ∧ (∀ k F, fget A.fs k = some F → left (.string k) = false → ¬ (con2 k).has r) ∧ Below w.heap.size w wr ∧ r < wr.heap.size) (fun _ wr => wr.rangeLeft m r)
  case atStart => exact ⟨_, _, con, _, hrg2, hcs, fun k F hk hl => (by rw [fsD_has, hk] at hl; cases hl), hbw2, hlt2⟩
  case round =>
    clear hrg2 hcs hbw2 hlt2 hb2
    obtain ⟨left, cnt, con2, D, hrg, hcp, hnr, hbw, hrl⟩ := hrel
    have HR := hide hrg
    have HC := hide hcp
    have HN := hide hnr
    have HB := hide hbw
    clear hrg hcp hnr hbw
    go_wp2_with (first | (at_next; refine wpList_next_files _ rfl _ rfl con A.fs m r left cnt (by rfl) HR.out ?_ ?_) | go_in)
    · intro hl0
      have hom := HC.out.done hl0 hsort
      have hDr : DiskAt wr p m con A := HH.out.same (fun b hb => HB.out.block b (HH.out.lt b hb))
      have HOM := hide hom
      have HL0 := hide hl0
      have HDR := hide hDr
      clear hom hl0 hDr
      go_wp2
      refine wp_region_noPanic ?_
      refine wp_region_held_drew (S := fun wx => DiskAt wx p m con A) (by kernel_rfl) HDR.out.drew (fun hHeld => ?_)
      refine takeH 0 (some 26) (.pointer (some ⟨p, 0, none⟩)) rfl rfl (by kernel_rfl) (by kernel_rfl) (by kernel_rfl) (fun _ _ _ h => h) (by rfl) (fun w hw => by first | rfl | (go_simp; done) | (go_simp; rfl)) hHeld ?_
      simp only [Act.put, List.setIfInBounds_toArray, List.set_cons_zero, List.set_cons_succ]
      refine takeH 1 (some 27) (.pointer (some ⟨p, 0, none⟩)) rfl rfl (by kernel_rfl) (by kernel_rfl) (by kernel_rfl) (fun _ _ _ h => h) (by rfl) (fun w hw => by first | rfl | (go_simp; done) | (go_simp; rfl)) hHeld ?_
      simp only [Act.put, List.setIfInBounds_toArray, List.set_cons_zero, List.set_cons_succ]
      refine takeH 2 (some 28) (.pointer (some ⟨p, 0, none⟩)) rfl rfl (by kernel_rfl) (by kernel_rfl) (by kernel_rfl) (fun _ _ _ h => h) (by rfl) (fun w hw => by first | rfl | (go_simp; done) | (go_simp; rfl)) hHeld ?_
      simp only [Act.put, List.setIfInBounds_toArray, List.set_cons_zero, List.set_cons_succ]
      refine takeH 3 (some 29) (.int .i64 A.cap) rfl rfl (by kernel_rfl) (by kernel_rfl) (by kernel_rfl) (fun _ _ _ h => h) (by rfl) (fun w hw => by have hw' := DiskAt.c0 hw; first | (go_simp; done) | (go_simp; rfl)) hHeld ?_
      simp only [Act.put, List.setIfInBounds_toArray, List.set_cons_zero, List.set_cons_succ]
      refine takeH 4 (some 30) (.map (some m2)) rfl rfl (by kernel_rfl) (by kernel_rfl) (by kernel_rfl) (fun _ _ _ h => h) (by rfl) (fun w hw => by first | rfl | (go_simp; done) | (go_simp; rfl)) hHeld ?_
      simp only [Act.put, List.setIfInBounds_toArray, List.set_cons_zero, List.set_cons_succ]
      refine takeH 5 (some 31) (.pointer (some ⟨p, 0, none⟩)) rfl rfl (by kernel_rfl) (by kernel_rfl) (by kernel_rfl) (fun _ _ _ h => h) (by rfl) (fun w hw => by first | rfl | (go_simp; done) | (go_simp; rfl)) hHeld ?_
      simp only [Act.put, List.setIfInBounds_toArray, List.set_cons_zero, List.set_cons_succ]
      refine takeH 6 (some 32) (.pointer (some ⟨p, 0, none⟩)) rfl rfl (by kernel_rfl) (by kernel_rfl) (by kernel_rfl) (fun _ _ _ h => h) (by rfl) (fun w hw => by first | rfl | (go_simp; done) | (go_simp; rfl)) hHeld ?_
      simp only [Act.put, List.setIfInBounds_toArray, List.set_cons_zero, List.set_cons_succ]
      refine takeH 7 (some 33) (.pointer (some ⟨p, 2, none⟩)) rfl rfl (by kernel_rfl) (by kernel_rfl) (by kernel_rfl) (fun _ _ _ h => h) (by rfl) (fun w hw => by first | rfl | (go_simp; done) | (go_simp; rfl)) hHeld ?_
      simp only [Act.put, List.setIfInBounds_toArray, List.set_cons_zero, List.set_cons_succ]
      refine takeH 8 (some 34) (.agg #[.bool A.pow.off, .bool A.pow.opn, .int .i64 A.pow.arm, .int .i64 A.pow.what, .int .i64 A.pow.fall]) rfl rfl (by kernel_rfl) (by kernel_rfl) (by kernel_rfl) (fun _ _ _ h => h) (by rfl) (fun w hw => by have h2 := DiskAt.c2 hw; have h3 := DiskAt.c3 hw; have h4 := DiskAt.c4 hw; have h5 := DiskAt.c5 hw; have h6 := DiskAt.c6 hw; first | (go_simp; done) | (go_simp; rfl)) hHeld ?_
      simp only [Act.put, List.setIfInBounds_toArray, List.set_cons_zero, List.set_cons_succ]
      refine takeH 9 (some 35) (.agg #[.int .i64 A.cap, .map (some m2), .bool A.pow.off, .bool A.pow.opn, .int .i64 A.pow.arm, .int .i64 A.pow.what, .int .i64 A.pow.fall]) rfl rfl (by kernel_rfl) (by kernel_rfl) (by kernel_rfl) (fun _ _ _ h => h) (by rfl) (fun w hw => by first | rfl | (go_simp; done) | (go_simp; rfl)) hHeld ?_
      simp only [Act.put, List.setIfInBounds_toArray, List.set_cons_zero, List.set_cons_succ]
      refine wpAnyH_ready (rs := [10]) (by kernel_rfl) (by simp) (AllReadyH.cons rfl (fun K hK => ?_) AllReadyH.nil)
      rw [if_pos (by rfl)]
      go_simp
      obtain ⟨wz, hwz⟩ : ∃ wz, (wr.alloc (.cells #[.int .i64 A.cap, .map (some m2), .bool A.pow.off, .bool A.pow.opn, .int .i64 A.pow.arm, .int .i64 A.pow.what, .int .i64 A.pow.fall] 42)).drew = wz := ⟨_, rfl⟩
      have hbz : Below wr.heap.size wr wz := by rw [← hwz]; exact ((Below.refl _ _).alloc (Nat.le_refl _) _).drew
      have hcz : wz.heap[wr.heap.size]? = some (.cells #[.int .i64 A.cap, .map (some m2), .bool A.pow.off, .bool A.pow.opn, .int .i64 A.pow.arm, .int .i64 A.pow.what, .int .i64 A.pow.fall] 42 (0, 0)) := by rw [← hwz]; exact heap_alloc_new wr _
      have hnew : DiskAt wz wr.heap.size m2 con2 A := by
        refine ⟨HH.out.ok, hcz, ownsMap_same HOM.out (hbz.block m2 HOM.out.lt), fun k F hk => (HC.out.file k F hk (HL0.out _)).same (fun b hb => hbz.block b ((HC.out.file k F hk (HL0.out _)).lt b hb)), fun k F hk => ⟨fun x => ?_, HC.out.nm2 k F hk (HL0.out _)⟩, fun k F k' F' hk hk' hne b hb => HC.out.apart k F k' F' hk (HL0.out _) hk' (HL0.out _) hne b hb⟩
        have := (HC.out.file k F hk (HL0.out _)).lt _ x
        omega
      have hft : ∀ b, foot wr.heap.size m2 con2 A.fs b → w.heap.size ≤ b := by
        rintro b (rfl | rfl | ⟨k, F, hk, hb⟩)
        · exact HB.out.size
        · exact HC.out.le
        · exact HC.out.new k F hk (HL0.out _) b hb
      have hbzw : Below w.heap.size w wz := HB.out.trans (hbz.mono HB.out.size)
      have HNW := hide hnew
      have HFT := hide hft
      have HBZ := hide hbzw
      refine hK.out _ _ (HDR.out.drew.same (fun b hb => Below.heap_alloc _ _ b (HDR.out.drew.lt b hb))) (fun hH => ?_)
      clear hK K hHeld
      have hHeld := hH
      clear hH hnew hft hbzw hcz hbz
      refine takeH 11 (some 2) (.pointer (some ⟨wr.heap.size, 0, none⟩)) rfl rfl (by kernel_rfl) (by kernel_rfl) (by kernel_rfl) (fun _ _ _ h => h) (by rfl) (fun w hw => by first | rfl | (go_simp; done) | (go_simp; rfl)) hHeld ?_
      simp only [Act.put, List.setIfInBounds_toArray, List.set_cons_zero, List.set_cons_succ]
      refine ⟨by kernel_rfl, ?_⟩
      refine NoPanic.normal ?_
      clear hHeld
      go_wp2
      go_ret
      rw [← hwz] at HNW HBZ
      exact ⟨wr.heap.size, m2, con2, rfl, HNW.out, HFT.out, HBZ.out⟩
    · intro s F w5 cnt5 hF hs hlk hrg5 hlt5 hg5 hen
      have hb5 : Below w.heap.size w w5 := HB.out.grown hg5 HB.out.size (fun j hj => by cases hj; rw [← HRE.out]; exact HB1.out.size)
      have hD5 : DiskAt w5 p m con A := HH.out.same (fun b hb => hb5.block b (HH.out.lt b hb))
      obtain ⟨n5, hn5, ho5⟩ := HC.out.own
      have hC5 : Copying w m m2 con con2 A.fs left D w5 := HC.out.turn (fun b hb hx => hg5.block b hb (fun e => by
        cases e
        rcases hx with x | ⟨k, G, hk, hl, hh⟩
        · omega
        · exact HN.out k G hk hl hh))
      have hcall := fcopy_any w5 (con s.data.toList) F (hD5.file _ F hF)
      have hs5 := hg5.size
      have HC5 := hide hC5
      have HR5 := hide hrg5
      have HL5 := hide hlt5
      have HB5 := hide hb5
      have HF := hide hF
      have HLK := hide hlk
      clear hD5 ho5 hC5 hrg5 hlt5 hb5 hF hlk hg5
      go_wp2_with fail
      refine hcall.mono ?_
      rintro e w6 ⟨c', rfl, hf6, hn6, hb6⟩
      obtain ⟨n6, hn6', ho6⟩ := HC5.out.own
      have ho6' := ownsMap_same ho6 (hb6.block m2 ho6.lt)
      have HF6 := hide hf6
      have HN6 := hide hn6
      have HB6 := hide hb6
      have HO6 := hide ho6'
      have HO5 := hide ho6
      have HKY := hide (keyOf_string_mk Tryz.underlying9 hs)
      clear hf6 hn6 hb6 ho6' ho6 hcall
      go_wp2_with (first | (at_mapUpdate; refine wpList_mapUpdate_own _ rfl _ _ _ 38 rfl 9 71 law9 Tryz.underlying38 ptrElem m2 n6 D rfl HO6.out (by unfold maxLen; omega) _ _ _ rfl rfl HKY.out _ [] (ptrElem_some c'.g) ?_; intro w7 hown7 hgr7; go_frame) | go_in)
      have e7 : ∀ b, b < w5.heap.size → b ≠ m2 → w7.heap[b]? = w5.heap[b]? := fun b hb hne => (hgr7.block b (Nat.lt_of_lt_of_le hb HB6.out.size) (fun x => hne (by cases x; rfl))).trans (HB6.out.block b hb)
      have hf7 := HF6.out.same (w' := w7) (fun b hb => hgr7.block b (HF6.out.lt b hb) (fun x => by cases x; have := HN6.out m2 hb; have := HO5.out.lt; omega))
      have hC7 := HC5.out.step HF.out HLK.out hf7 HN6.out (by have := HB.out.size; omega) hfew hown7 e7 hsort
      have hrg7 : w7.ranges Tryz.prog 9 ptrElem m r 16 (fsD con A.fs) (fun z => left z && !z.sameKey (.string s.data.toList)) cnt5 := ranges_same HR5.out (e7 m HR5.out.owns.lt (fun x => by rw [x, ← HM2.out] at hml; omega)) (e7 r HR5.out.lt (by omega))
      have hb7 : Below w.heap.size w w7 := (HB5.out.trans (HB6.out.mono HB5.out.size)).grown hgr7 (Nat.le_trans HB5.out.size HB6.out.size) (fun j hj => by cases hj; rw [HM2.out]; exact Nat.le_refl _)
      go_roundw
      case rel =>
        refine ⟨_, cnt5, _, _, hrg7, hC7, fun k G hk hl hh => ?_, hb7, by have := HB6.out.size; have := hgr7.size; omega⟩
        by_cases e : k = s.data.toList
        · rw [e, upd_same] at hh
          have := HN6.out r hh
          have := HR5.out.lt
          omega
        · rw [upd_ne _ _ e] at hh
          have : (Lit.string k).sameKey (.string s.data.toList) = false := by simp [Lit.sameKey, e]
          rw [this] at hl
          exact HN.out k G hk (by simpa using hl) hh
      case measure => rw [hrg7.left_eq, HR.out.left_eq]; exact HL5.out
end Go.Proofs.YtcmhfpiglacdaaaGreat
