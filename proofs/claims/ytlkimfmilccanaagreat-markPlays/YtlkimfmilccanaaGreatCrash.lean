/-
  Crash of a disk.
-/
import Derived.Test.YtlkimfmilccanaaGreatFCrash
namespace Go.Proofs.YtlkimfmilccanaaGreat
open Go.RowKit Go.Maps Go.WideMaps
set_option linter.unusedVariables false
set_option linter.unusedSimpArgs false
/-- The files midway: those that are left are as they were. -/
def mix (ls : List FT) (left : Lit → Bool) (fs : FList) : FList := fs.map (fun p => if left (.string p.1) then p else (p.1, p.2.crash (ftOf ls p.1)))
theorem mix_keys (ls : List FT) (left : Lit → Bool) (fs : FList) : fkeys (mix ls left fs) = fkeys fs := by
  unfold fkeys mix
  rw [List.map_map]
  refine List.map_congr_left (fun p _ => ?_)
  simp only [Function.comp]
  split <;> rfl
theorem mix_start (ls : List FT) {left : Lit → Bool} {fs : FList} (h : ∀ p ∈ fs, left (.string p.1) = true) : mix ls left fs = fs := by
  unfold mix
  refine (List.map_congr_left (fun p hp => ?_)).trans (List.map_id _)
  rw [if_pos (h p hp)]; rfl
theorem mix_done (ls : List FT) {left : Lit → Bool} {fs : FList} (h : ∀ kl, left kl = false) : mix ls left fs = fs.map (fun p => (p.1, p.2.crash (fateOf (ls.map FT.abs) p.1))) := by
  unfold mix
  refine List.map_congr_left (fun p hp => ?_)
  rw [if_neg (by rw [h]; simp)]; rfl
theorem mix_get (ls : List FT) {left : Lit → Bool} {k : Key} {F : AF} (hl : left (.string k) = true) : ∀ {fs : FList}, fget fs k = some F → fget (mix ls left fs) k = some F
  | [], h => by simp [fget] at h
  | p :: r, h => by
    rw [fget_cons] at h
    show fget ((if left (.string p.1) then p else (p.1, p.2.crash (ftOf ls p.1))) :: mix ls left r) k = _
    rw [fget_cons]
    by_cases e : p.1 = k
    · rw [if_pos e] at h
      rw [e, if_pos hl, if_pos e]; exact h
    · rw [if_neg e] at h
      rw [if_neg (by split <;> exact e)]
      exact mix_get ls hl h
theorem mix_step (ls : List FT) {left : Lit → Bool} {k : Key} {F : AF} : ∀ {fs : FList}, fs.Pairwise (fun p q => p.1 ≠ q.1) → fget fs k = some F → left (.string k) = true →
    fset (mix ls left fs) k (F.crash (ftOf ls k)) = mix ls (fun z => left z && !z.sameKey (.string k)) fs := by
  intro fs hap hF hl
  unfold fset mix
  rw [List.map_map]
  refine List.map_congr_left (fun p hp => ?_)
  simp only [Function.comp]
  obtain ⟨x, G⟩ := p
  by_cases e : x = k
  · subst e
    have hpF : G = F := by
      have := mem_fget (k := x) (F := G) hap hp
      rw [hF] at this
      simpa using this.symm
    subst hpF
    have e1 : (Lit.string x).sameKey (.string x) = true := by simp [Lit.sameKey]
    simp [e1, hl]
  · have e1 : (Lit.string x).sameKey (.string k) = false := by simp [Lit.sameKey, e]
    by_cases hx : left (.string x) = true <;> simp [e, e1, hx]
theorem crash_sorted {fs : FList} (g : Key × AF → AF) (h : fs.Pairwise (fun p q => bytesBefore p.1 q.1 = true)) : (fs.map (fun p => (p.1, g p))).Pairwise (fun p q => bytesBefore p.1 q.1 = true) := by
  rw [List.pairwise_map]; exact h
theorem FatesAt.turn {S : Nat → Prop} {w w' : World} {ad : Option Addr} {ls : List FT} (h : FatesAt w ad ls) (t : Turn S w w') (hn : ls ≠ [] → ∀ b o, ad = some ⟨b, o, none⟩ → ¬ S b) : FatesAt w' ad ls := by
  by_cases he : ls = []
  · exact .inl he
  rcases h with h | ⟨b, o, ha, hlt, hc⟩
  · exact .inl h
  · refine .inr ⟨b, o, ha, Nat.lt_of_lt_of_le hlt t.size, fun i hi j hj => ?_⟩
    rw [← hc i hi j hj]
    exact World.cell?_of_block (t.block b hlt (hn he b o ha))
def pz : AP := ⟨true, false, 0, 0, 0⟩
theorem pz_ok : pz.Ok := ⟨by decide, by decide, by decide, by decide, by decide, by decide⟩
structure Crashing (p m r : Nat) (con : Key → FC) (A : AD) (ls : List FT) (w : World) (left : Lit → Bool) (con' : Key → FC) (wr : World) : Prop where
  st : DStep p m con A w con' ⟨A.cap, mix ls left A.fs, pz⟩ wr
  nr : ¬ foot p m con' (mix ls left A.fs) r
  gs : ∀ k, (con' k).g = (con k).g
  lt : r < wr.heap.size
section
variable {p m r : Nat} {con con' : Key → FC} {A : AD} {ls : List FT} {w wr w' : World} {left : Lit → Bool}
theorem Crashing.below (h : Crashing p m r con A ls w left con' wr) (hb : Below wr.heap.size wr w') : Crashing p m r con A ls w left con' w' :=
  ⟨h.st.trans (DStep.below h.st.at_ hb), h.nr, h.gs, Nat.lt_of_lt_of_le h.lt hb.size⟩
theorem Crashing.step5 (h : Crashing p m r con A ls w left con' wr) (hg : wr.grownBy w' (some r)) (hwr : w.heap.size ≤ r) : Crashing p m r con A ls w left con' w' := by
  have hat := h.st.at_.same (w' := w') (fun b hb => hg.block b (h.st.at_.lt b hb) (fun e => h.nr (by cases e; exact hb)))
  have hT := Turn.of_grown hg
  refine ⟨⟨hat, ⟨?_, fun b hb => h.st.step.own b hb⟩⟩, h.nr, h.gs, Nat.lt_of_lt_of_le h.lt hT.size⟩
  have t1 := h.st.step.turn
  exact ⟨hT.os.trans t1.os, hT.tape.trans t1.tape, hT.output.trans t1.output, Nat.le_trans t1.size hT.size, fun b hb hn => (hg.block b (Nat.lt_of_lt_of_le hb t1.size) (fun e => by cases e; omega)).trans (t1.block b hb hn)⟩
theorem Crashing.step {k : Key} {F : AF} {c' : FC} (h : Crashing p m r con A ls w left con' wr) (hF : fget A.fs k = some F) (hl : left (.string k) = true) (hf : FileAt w' c' (F.crash (ftOf ls k))) (s : FStep (con' k) c' wr w') (hsort : A.fs.Pairwise (fun p q => bytesBefore p.1 q.1 = true)) :
    Crashing p m r con A ls w (fun z => left z && !z.sameKey (.string k)) (upd con' k c') w' := by
  have hfk := mix_get ls hl hF
  have hok := h.st.at_.ok.files _ (fget_mem hfk)
  have hsp : ((fused (mix ls left A.fs) : Int) + (F.crash (ftOf ls k)).seen.length - F.seen.length) ≤ A.cap := by
    have h1 := h.st.at_.ok.space
    have h2 : (F.crash (ftOf ls k)).seen.length ≤ F.seen.length := by
      rw [AF.crash_seen, AF.left_length]; exact AF.len_le hok _
    simp only at h1
    omega
  have hst := h.st.trans (DStep.file h.st.at_ hfk hf s hsp)
  have e := mix_step ls (apart_of hsort) hF hl
  simp only [e] at hst
  refine ⟨hst, fun x => ?_, fun x => ?_, Nat.lt_of_lt_of_le h.lt s.turn.size⟩
  · rw [← e] at x
    have := (h.st.at_.setFile hfk hf s hsp).2 r x
    rcases this with y | y
    · exact h.nr y
    · have := h.lt; omega
  · by_cases e : x = k
    · rw [e, upd_same, s.g]; exact h.gs k
    · rw [upd_ne _ _ e]; exact h.gs x
end
set_option maxRecDepth 5000 in
set_option maxHeartbeats 1000000 in
theorem crash_any (p m : Nat) (con : Key → FC) (A : AD) (w : World) (h : DiskAt w p m con A) (ad : Option Addr) (ls : List FT) (cap : Nat) (hfa : FatesAt w ad ls) (hok : ∀ x ∈ ls, x.Ok) (hl : ls.length ≤ 9223372036854775807) (hna : ls ≠ [] → ∀ b o, ad = some ⟨b, o, none⟩ → ¬ foot p m con A.fs b) :
    Calls Tryz.prog 25 #[.pointer (some ⟨p, 0, none⟩), .slice ad ls.length cap] w fun e w' => e = .returned (.tuple #[]) ∧ ∃ con', DStep p m con A w con' (A.crash (ls.map FT.abs)) w' := by
  have HH := hide h
  have HFA := hide hfa
  have HOK := hide hok
  have HNA := hide hna
  have c2 := h.c2
  have c3 := h.c3
  have hsort := h.ok.sorted
  have hpl := lt_of_some h.cells
  have hml := h.files.lt
  by_cases hq : A.pow.off = true ∧ A.pow.opn = false
  · have e : A.crash (ls.map FT.abs) = A := by unfold AD.crash; rw [if_pos hq]
    obtain ⟨q1, q2⟩ := hq
    rw [q1] at c2
    rw [q2] at c3
    clear h hfa hok hna
    go_enter Tryz.func25, Tryz.ntmps25
    go_wp2
    (try simp only [Exit.inBlock, Exit.then])
    refine bodyPost_ret (results_none rfl _ _ _) rfl ?_
    rw [e]
    exact ⟨rfl, con, DStep.refl HH.out⟩
  · have e : A.crash (ls.map FT.abs) = ⟨A.cap, A.fs.map (fun p => (p.1, p.2.crash (fateOf (ls.map FT.abs) p.1))), pz⟩ := by unfold AD.crash; rw [if_neg hq]; rfl
    have HE := hide e
    have dq : A.pow.off = false ∨ (A.pow.off = true ∧ A.pow.opn = true) := by
      cases h1 : A.pow.off with
      | false => exact .inl rfl
      | true => cases h2 : A.pow.opn with
        | true => exact .inr ⟨rfl, rfl⟩
        | false => exact absurd ⟨h1, h2⟩ hq
    have c4 := h.c4
    have c5 := h.c5
    have c6 := h.c6
    have c1 := h.c1
    have f2 := h.fz 2
    have f3 := h.fz 3
    have f4 := h.fz 4
    have f5 := h.fz 5
    have f6 := h.fz 6
    obtain ⟨w1, hw1⟩ : ∃ w1, ((((w.setCell ⟨p, 2, none⟩ (.bool true)).setCell ⟨p, 3, none⟩ (.bool false)).setCell ⟨p, 4, none⟩ (.int .i64 0)).setCell ⟨p, 5, none⟩ (.int .i64 0)).setCell ⟨p, 6, none⟩ (.int .i64 0) = w1 := ⟨_, rfl⟩
    have hcz : DCells w1 p m A.cap pz := by
      have h0 : DCells w p m A.cap A.pow := h.cells
      rw [← hw1]; exact ((((h0.off true).opn false).arm 0).what 0).fall 0
    have ht1 : Turn (fun b => b = p) w w1 := by
      rw [← hw1]; exact tset (tset (tset (tset (tset (Turn.refl _ _) 2 _) 3 _) 4 _) 5 _) 6 _
    have hD1 : DiskAt w1 p m con ⟨A.cap, A.fs, pz⟩ := h.setPow pz_ok ht1 hcz
    have hS1 : DStep p m con A w con ⟨A.cap, A.fs, pz⟩ w1 := DStep.pow hD1 rfl ht1
    have d1 := hD1.c1
    have HD1 := hide hD1
    have HS1 := hide hS1
    have hsz1 := ht1.size
    clear h hfa hok hna e hq hD1 hS1 hcz ht1
    rcases dq with q1 | ⟨q1, q2⟩
    · rw [q1] at c2
      go_enter Tryz.func25, Tryz.ntmps25
      go_wp2_with (first | (at_range; refine wpList_range_files _ rfl _ rfl con A.fs m (by rfl) HD1.out.files ?_; intro w2 hrg2 hb2 hlt2) | go_in)
      try go_frame
      obtain ⟨r, hr⟩ : ∃ r, w1.heap.size = r := ⟨_, rfl⟩
      have hnr : ¬ foot p m con A.fs r := fun x => by have := HD1.out.lt r x; omega
      have hst2 := HS1.out.trans (DStep.below HD1.out hb2)
      rw [hr] at hrg2 hb2 hlt2 ⊢
      have hwr : w.heap.size ≤ r := by rw [← hr]; exact hsz1
      have hms : mix ls (Maps.has (fsD con A.fs)) A.fs = A.fs := mix_start ls (fun q hq => by rw [fsD_has, mem_fget (apart_of hsort) hq]; rfl)
      have hcr2 : Crashing p m r con A ls w (Maps.has (fsD con A.fs)) con w2 := ⟨by rw [hms]; exact hst2, by rw [hms]; exact hnr, fun _ => rfl, hlt2⟩
      have HRE := hide hr
      clear hr c1 d1 c2 c3 c4 c5 c6 f2 f3 f4 f5 f6 hst2 hms hnr hw1
      go_loopw [4] (fun _ wr => ∃ left cnt con', wr.ranges Tryz.prog 9 ptrElem m r 16 (fsD con A.fs) left cnt ∧ Crashing p m r con A ls w left con' wr) (fun _ wr => wr.rangeLeft m r)
      case atStart => exact ⟨_, _, con, hrg2, hcr2⟩
      case round =>
        clear hrg2 hcr2 hlt2 hb2
        obtain ⟨left, cnt, con', hrg, hcr⟩ := hrel
        have HR := hide hrg
        have HC := hide hcr
        clear hrg hcr
        go_wp2_with (first | (at_next; refine wpList_next_files _ rfl _ rfl con A.fs m r left cnt (by rfl) HR.out ?_ ?_) | go_in)
        · intro hl0
          have hfin := HC.out.st
          rw [mix_done ls hl0] at hfin
          have HFI := hide hfin
          clear hfin hl0
          go_wp2
          go_end0
          rw [HE.out]
          exact ⟨rfl, con', HFI.out⟩
        · intro s F w5 cnt5 hF hs hlk hrg5 hlt5 hg5 hen
          have hC5 := HC.out.step5 hg5 hwr
          have hfa5 : FatesAt w5 ad ls := HFA.out.turn hC5.st.step.turn HNA.out
          have hcall := fatesOf_any w5 s ad ls cap hfa5 HOK.out hl
          have HC5 := hide hC5
          have HR5 := hide hrg5
          have HL5 := hide hlt5
          have HF := hide hF
          have HLK := hide hlk
          have hgg := hC5.gs s.data.toList
          have HG := hide hgg
          clear hC5 hfa5 hrg5 hlt5 hF hlk hg5 hgg
          go_wp2_with fail
          refine hcall.mono ?_
          rintro e w6 ⟨mf, n6, D6, rfl, ho6, hm6, hl6, hb6⟩
          have hC6 := HC5.out.below hb6
          have hfk := mix_get ls HLK.out HF.out
          have hcall2 := fcrash_any w6 (con' s.data.toList) F (hC6.st.at_.file _ F hfk) mf n6 D6 ls s.data.toList ho6 hm6
          rw [HG.out] at hcall2
          have HC6 := hide hC6
          have HFK := hide hfk
          have hr6 := ranges_same (w' := w6) HR5.out (hb6.block m HR5.out.owns.lt) (hb6.block r HR5.out.lt)
          have HR6 := hide hr6
          clear hC6 hfk hcall ho6 hm6 hl6 hb6 hr6
          go_wp2_with fail
          refine hcall2.mono ?_
          rintro e w7 ⟨rfl, c7, hf7, hs7⟩
          have hC7 := HC6.out.step HF.out HLK.out hf7 hs7 hsort
          have hr7 : w7.ranges Tryz.prog 9 ptrElem m r 16 (fsD con A.fs) (fun z => left z && !z.sameKey (.string s.data.toList)) cnt5 := ranges_same HR6.out (hs7.turn.block m HR6.out.owns.lt (HC6.out.st.at_.pf _ F HFK.out).2) (hs7.turn.block r HR6.out.lt (fun x => HC6.out.nr (.inr (.inr ⟨_, F, HFK.out, x⟩))))
          have HC7 := hide hC7
          have HR7 := hide hr7
          clear hC7 hr7 hs7 hf7 hcall2
          go_wp2
          go_roundw
          case rel => exact ⟨_, cnt5, _, HR7.out, HC7.out⟩
          case measure => rw [HR7.out.left_eq, HR.out.left_eq]; exact HL5.out
    · rw [q1] at c2
      rw [q2] at c3
      go_enter Tryz.func25, Tryz.ntmps25
      go_wp2_with (first | (at_range; refine wpList_range_files _ rfl _ rfl con A.fs m (by rfl) HD1.out.files ?_; intro w2 hrg2 hb2 hlt2) | go_in)
      try go_frame
      obtain ⟨r, hr⟩ : ∃ r, w1.heap.size = r := ⟨_, rfl⟩
      have hnr : ¬ foot p m con A.fs r := fun x => by have := HD1.out.lt r x; omega
      have hst2 := HS1.out.trans (DStep.below HD1.out hb2)
      rw [hr] at hrg2 hb2 hlt2 ⊢
      have hwr : w.heap.size ≤ r := by rw [← hr]; exact hsz1
      have hms : mix ls (Maps.has (fsD con A.fs)) A.fs = A.fs := mix_start ls (fun q hq => by rw [fsD_has, mem_fget (apart_of hsort) hq]; rfl)
      have hcr2 : Crashing p m r con A ls w (Maps.has (fsD con A.fs)) con w2 := ⟨by rw [hms]; exact hst2, by rw [hms]; exact hnr, fun _ => rfl, hlt2⟩
      have HRE := hide hr
      clear hr c1 d1 c2 c3 c4 c5 c6 f2 f3 f4 f5 f6 hst2 hms hnr hw1
      go_loopw [4] (fun _ wr => ∃ left cnt con', wr.ranges Tryz.prog 9 ptrElem m r 16 (fsD con A.fs) left cnt ∧ Crashing p m r con A ls w left con' wr) (fun _ wr => wr.rangeLeft m r)
      case atStart => exact ⟨_, _, con, hrg2, hcr2⟩
      case round =>
        clear hrg2 hcr2 hlt2 hb2
        obtain ⟨left, cnt, con', hrg, hcr⟩ := hrel
        have HR := hide hrg
        have HC := hide hcr
        clear hrg hcr
        go_wp2_with (first | (at_next; refine wpList_next_files _ rfl _ rfl con A.fs m r left cnt (by rfl) HR.out ?_ ?_) | go_in)
        · intro hl0
          have hfin := HC.out.st
          rw [mix_done ls hl0] at hfin
          have HFI := hide hfin
          clear hfin hl0
          go_wp2
          go_end0
          rw [HE.out]
          exact ⟨rfl, con', HFI.out⟩
        · intro s F w5 cnt5 hF hs hlk hrg5 hlt5 hg5 hen
          have hC5 := HC.out.step5 hg5 hwr
          have hfa5 : FatesAt w5 ad ls := HFA.out.turn hC5.st.step.turn HNA.out
          have hcall := fatesOf_any w5 s ad ls cap hfa5 HOK.out hl
          have HC5 := hide hC5
          have HR5 := hide hrg5
          have HL5 := hide hlt5
          have HF := hide hF
          have HLK := hide hlk
          have hgg := hC5.gs s.data.toList
          have HG := hide hgg
          clear hC5 hfa5 hrg5 hlt5 hF hlk hg5 hgg
          go_wp2_with fail
          refine hcall.mono ?_
          rintro e w6 ⟨mf, n6, D6, rfl, ho6, hm6, hl6, hb6⟩
          have hC6 := HC5.out.below hb6
          have hfk := mix_get ls HLK.out HF.out
          have hcall2 := fcrash_any w6 (con' s.data.toList) F (hC6.st.at_.file _ F hfk) mf n6 D6 ls s.data.toList ho6 hm6
          rw [HG.out] at hcall2
          have HC6 := hide hC6
          have HFK := hide hfk
          have hr6 := ranges_same (w' := w6) HR5.out (hb6.block m HR5.out.owns.lt) (hb6.block r HR5.out.lt)
          have HR6 := hide hr6
          clear hC6 hfk hcall ho6 hm6 hl6 hb6 hr6
          go_wp2_with fail
          refine hcall2.mono ?_
          rintro e w7 ⟨rfl, c7, hf7, hs7⟩
          have hC7 := HC6.out.step HF.out HLK.out hf7 hs7 hsort
          have hr7 : w7.ranges Tryz.prog 9 ptrElem m r 16 (fsD con A.fs) (fun z => left z && !z.sameKey (.string s.data.toList)) cnt5 := ranges_same HR6.out (hs7.turn.block m HR6.out.owns.lt (HC6.out.st.at_.pf _ F HFK.out).2) (hs7.turn.block r HR6.out.lt (fun x => HC6.out.nr (.inr (.inr ⟨_, F, HFK.out, x⟩))))
          have HC7 := hide hC7
          have HR7 := hide hr7
          clear hC7 hr7 hs7 hf7 hcall2
          go_wp2
          go_roundw
          case rel => exact ⟨_, cnt5, _, HR7.out, HC7.out⟩
          case measure => rw [HR7.out.left_eq, HR.out.left_eq]; exact HL5.out
theorem AD.crash_pow (A : AD) (l : List AFate) : (A.crash l).pow.opn = A.pow.opn ∨ (A.crash l).pow = pz := by
  unfold AD.crash
  split
  · exact .inl rfl
  · exact .inr rfl
theorem DStep.setOff {w : World} {p m : Nat} {con con1 : Key → FC} {A A1 : AD} {w1 : World} (h : DStep p m con A w con1 A1 w1) (x : Bool) : DStep p m con A w con1 { A1 with pow := { A1.pow with off := x } } (w1.setCell ⟨p, 2, none⟩ (.bool x)) := by
  have h0 : DCells w1 p m A1.cap A1.pow := h.at_.cells
  have t := tset (Turn.refl (fun b => b = p) w1) 2 (.bool x)
  have ok := h.at_.ok.pow
  have hD : DiskAt (w1.setCell ⟨p, 2, none⟩ (.bool x)) p m con1 { A1 with pow := { A1.pow with off := x } } := h.at_.setPow ⟨ok.a0, ok.a1, ok.f0, ok.f1, ok.w0, ok.w1⟩ t (h0.off x)
  exact h.trans (DStep.pow hD rfl t)
set_option maxRecDepth 5000 in
theorem on_any (p m : Nat) (con : Key → FC) (A : AD) (w : World) (h : DiskAt w p m con A) :
    Calls Tryz.prog 26 #[.pointer (some ⟨p, 0, none⟩)] w fun e w' => e = .returned (.tuple #[]) ∧ ∃ con', DStep p m con A w con' A.on w' := by
  have HH := hide h
  have c3 := h.c3
  cases hq : A.pow.opn with
  | true =>
    have e : A.on = { A.crash [] with pow := { (A.crash []).pow with off := false } } := by unfold AD.on; simp only [hq, if_true]
    have HE := hide e
    rw [hq] at c3
    have hcall := crash_any p m con A w h none [] 0 (.inl rfl) (by simp) (by decide) (by simp)
    clear h e
    go_enter Tryz.func26, Tryz.ntmps26
    go_wp2_with fail
    refine hcall.mono ?_
    rintro e w1 ⟨rfl, con1, hs1⟩
    have c2 := hs1.at_.c2
    have f2 := hs1.at_.fz 2
    have HS1 := hide hs1
    clear hs1 hcall
    go_wp2
    go_end0
    rw [HE.out]
    exact ⟨rfl, con1, HS1.out.setOff false⟩
  | false =>
    have e : A.on = { A with pow := { A.pow with off := false } } := by unfold AD.on; simp [hq]
    have HE := hide e
    rw [hq] at c3
    have c2 := h.c2
    have f2 := h.fz 2
    clear h e
    go_enter Tryz.func26, Tryz.ntmps26
    go_wp2
    go_end0
    rw [HE.out]
    exact ⟨rfl, con, (DStep.refl HH.out).setOff false⟩
end Go.Proofs.YtlkimfmilccanaaGreat
