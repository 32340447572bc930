import Derived.Test.YtmmcoedgoekhgaaGreatDoorGSym3
import Derived.Sort.OwnSorted
/-
  The stable sort, whole (printed by gen_sta.py).
-/
namespace Go.Proofs.YtmmcoedgoekhgaaGreatDoor
set_option maxRecDepth 20000
open Go.RowKit S Go.Shelf Go.Sort
set_option linter.unusedVariables false
set_option linter.unusedSimpArgs false
theorem symMerge_any (P : Program) (k : Nat) (L : PT P k) (w0 : World) (blk off N cap : Nat) (d0 : Array Pen) (hN : d0.size = N) (hz : N ≤ 4000000000000) (R : PRow k w0 blk off d0) : ∀ (n : Nat) (dk : Array Pen) (w : World), PSW k w0 blk off dk w → dk.size = N → ∀ (X A B Y : List Pen), dk.toList = X ++ (A ++ (B ++ Y)) → Srt keyP A → Srt keyP B → 1 ≤ A.length → 1 ≤ B.length → A.length + B.length < n → ∀ a m b : Nat, a = X.length → m = a + A.length → b = m + B.length →
    Calls P 216 #[.slice (some ⟨blk, off, none⟩) N cap, .int .i64 (a : Int), .int .i64 (m : Int), .int .i64 (b : Int), byID] w fun e w' => e = .returned (.tuple #[]) ∧ ∃ dk' M, PSW k w0 blk off dk' w' ∧ dk'.size = N ∧ dk'.toList = X ++ (M ++ Y) ∧ M.length = A.length + B.length ∧ Sorts keyP (A ++ B) M
  | 0, dk, w, S, hs, X, A, B, Y, hl, hA, hB, h1, h2, hn, a, m, b, ha, hm, hb => by omega
  | n + 1, dk, w, S, hs, X, A, B, Y, hl, hA, hB, h1, h2, hn, a, m, b, ha, hm, hb => by
    by_cases c1 : A.length = 1
    · obtain ⟨x, rfl⟩ := List.length_eq_one_iff.1 c1
      have := symOne_any P k L w0 blk off N cap d0 dk hN hz R w S hs X B Y x hl hB a m b ha (by simpa using hm) (by rw [hb, hm]; simp)
      simpa using this
    · by_cases c2 : B.length = 1
      · obtain ⟨x, rfl⟩ := List.length_eq_one_iff.1 c2
        have := symLast_any P k L w0 blk off N cap d0 dk hN hz R w S hs X A Y x hl hA (by omega) a m b ha hm (by simpa using hb)
        simpa using this
      · exact symBoth_any P k L w0 blk off N cap d0 dk hN hz R w S hs X A B Y hl hA hB (by omega) (by omega) a m b ha hm hb
          (fun dk w S hs X' A' B' Y' hl hA hB h1 h2 hlt a m b ha hm hb => symMerge_any P k L w0 blk off N cap d0 hN hz R n dk w S hs X' A' B' Y' hl hA hB h1 h2 (by omega) a m b ha hm hb)
/-- Sorted parts of one length, the last of at most that. -/
def Chk (s : Nat) : List (List Pen) → Prop
  | [] => True
  | [c] => 1 ≤ c.length ∧ c.length ≤ s ∧ Srt keyP c
  | c :: c' :: cs => c.length = s ∧ Srt keyP c ∧ Chk s (c' :: cs)
def Full (s : Nat) (cs : List (List Pen)) : Prop := ∀ c ∈ cs, c.length = s ∧ Srt keyP c
theorem Full.snoc {s : Nat} {cs : List (List Pen)} {c : List Pen} (h : Full s cs) (h1 : c.length = s) (h2 : Srt keyP c) : Full s (cs ++ [c]) := fun x hx => by
  rcases List.mem_append.1 hx with hx | hx
  · exact h x hx
  · simp at hx; subst hx; exact ⟨h1, h2⟩
theorem Full.chk {s : Nat} (hs : 1 ≤ s) : ∀ {cs : List (List Pen)}, Full s cs → Chk s cs
  | [], _ => trivial
  | [c], h => ⟨by have := (h c (by simp)).1; omega, by have := (h c (by simp)).1; omega, (h c (by simp)).2⟩
  | c :: c' :: cs, h => ⟨(h c (by simp)).1, (h c (by simp)).2, Full.chk hs fun x hx => h x (by simp at hx ⊢; exact .inr hx)⟩
theorem Full.chk_snoc {s : Nat} {c : List Pen} (h1 : 1 ≤ c.length) (h2 : c.length ≤ s) (h3 : Srt keyP c) : ∀ {cs : List (List Pen)}, Full s cs → Chk s (cs ++ [c])
  | [], _ => ⟨h1, h2, h3⟩
  | [d], h => ⟨(h d (by simp)).1, (h d (by simp)).2, h1, h2, h3⟩
  | d :: d' :: cs, h => ⟨(h d (by simp)).1, (h d (by simp)).2, Full.chk_snoc h1 h2 h3 (cs := d' :: cs) fun x hx => h x (by simp at hx ⊢; exact .inr hx)⟩
theorem Chk.two {s : Nat} (hs : 1 ≤ s) {cs : List (List Pen)} (h : Chk s cs) (hl : 2 * s ≤ cs.flatten.length) : ∃ c d ds, cs = c :: d :: ds ∧ c.length = s ∧ d.length = s ∧ Srt keyP c ∧ Srt keyP d ∧ Chk s ds := by
  rcases cs with _ | ⟨c, _ | ⟨d, ds⟩⟩
  · simp at hl; omega
  · simp at hl; have := h.2.1; omega
  · rcases ds with _ | ⟨e, es⟩
    · obtain ⟨h1, h2, h3, h4, h5⟩ := h
      exact ⟨c, d, [], rfl, h1, by simp at hl; omega, h2, h5, trivial⟩
    · obtain ⟨h1, h2, h3, h4, h5⟩ := h
      exact ⟨c, d, e :: es, rfl, h1, h3, h2, h4, h5⟩
theorem Chk.few {s : Nat} {cs : List (List Pen)} (h : Chk s cs) (hl : cs.flatten.length < 2 * s) : cs = [] ∨ (∃ c, cs = [c] ∧ 1 ≤ c.length ∧ c.length ≤ s ∧ Srt keyP c) ∨ ∃ c d, cs = [c, d] ∧ c.length = s ∧ 1 ≤ d.length ∧ d.length < s ∧ Srt keyP c ∧ Srt keyP d := by
  rcases cs with _ | ⟨c, _ | ⟨d, _ | ⟨e, es⟩⟩⟩
  · exact .inl rfl
  · exact .inr (.inl ⟨c, rfl, h.1, h.2.1, h.2.2⟩)
  · obtain ⟨h1, h2, h3, h4, h5⟩ := h
    exact .inr (.inr ⟨c, d, rfl, h1, h3, by simp at hl; omega, h2, h5⟩)
  · obtain ⟨h1, h2, h3, h4, h5⟩ := h
    simp at hl; omega
theorem Chk.whole {s : Nat} (hs : 1 ≤ s) {cs : List (List Pen)} (h : Chk s cs) (hl : cs.flatten.length ≤ s) : Srt keyP cs.flatten := by
  rcases cs with _ | ⟨c, _ | ⟨d, ds⟩⟩
  · exact List.Pairwise.nil
  · simpa using h.2.2
  · exfalso
    have h0 := h.1
    have : 1 ≤ d.length := by
      rcases ds with _ | ⟨e, es⟩
      · exact h.2.2.1
      · have := h.2.2.1; omega
    simp at hl; omega
set_option maxRecDepth 100000 in
set_option maxHeartbeats 4000000 in
theorem stable_any (P : Program) (k : Nat) (L : PT P k) (w0 : World) (blk off N cap : Nat) (d0 dk : Array Pen) (hN : d0.size = N) (hz : N ≤ 4000000000000) (R : PRow k w0 blk off d0) (w : World) (S : PSW k w0 blk off dk w) (hs : dk.size = N) (l : List Pen) (hl : dk.toList = l) :
    Calls P 208 #[.slice (some ⟨blk, off, none⟩) N cap, .int .i64 (N : Int), byID] w fun e w' => e = .returned (.tuple #[]) ∧ ∃ dk' M, PSW k w0 blk off dk' w' ∧ dk'.size = N ∧ dk'.toList = M ∧ Sorts keyP l M := by
  have hlen : N = l.length := by rw [← hs, size_of hl]
  have CINS := hide (insertion_any P k L w0 blk off N cap d0 · hN hz R)
  have CSYM := hide (symMerge_any P k L w0 blk off N cap d0 hN hz R)
  have S0 : Aside (PSW k w0 blk off dk w) := S
  have HL := hide hl
  have hs0 := hide hs
  have HLN := hide hlen
  have mixed := L.mixed; have t0 := L.t0; have a0 := L.a0; have z0 := L.z0; have v0 := L.v0; have t3 := L.t3; have a3 := L.a3; have z3 := L.z3; have v3 := L.v3; have t4 := L.t4; have a4 := L.a4; have z4 := L.z4; have v4 := L.v4; have tS := L.tS; have aS := L.aS; have zS := L.zS; have vS := L.vS; have tF := L.tF; have aF := L.aF; have zF := L.zF; have vF := L.vF; have tU := L.tU; have aU := L.aU; have zU := L.zU; have vU := L.vU; have aE := L.aE; have zE := L.zE; have uS := run_underlying L.tS; have eIns := L.eIns; have eSym := L.eSym; have eRot := L.eRot; have eSwp := L.eSwp; have eSta := L.eSta; have eC := L.eC
  unfold byID at CINS CSYM ⊢
  clear S hl hs hlen hN
  go_enter L.fSta, Tryz.ntmps208
  go_wp2
  go_loopg [7, 8] N (fun kx s7 s8 wr => ∃ (a b : Nat) (dj : Array Pen) (cs : List (List Pen)) (R : List Pen), s7 = .int .i64 (a : Int) ∧ s8 = .int .i64 (b : Int) ∧ b = a + 20 ∧ a ≤ N ∧ N - a ≤ kx ∧ Aside (PSW k w0 blk off dj wr) ∧ Hid (dj.size = N) ∧ Hid (dj.toList = cs.flatten ++ R) ∧ Hid (cs.flatten.length = a) ∧ Hid (Full 20 cs) ∧ Hid (Sam keyP l (cs.flatten ++ R)))
  case atStart => exact ⟨0, 20, dk, [], l, rfl, rfl, rfl, Nat.zero_le _, Nat.le_refl _, S0, hs0, by show _ = _; rw [HL.out]; rfl, rfl, (fun c hc => by cases hc), Sam.refl _⟩
  case round =>
    clear S0 hs0 HL
    obtain ⟨a, b, dj, cs, R2, rfl, rfl, hab, haN, hkx, S1, hs1, hl1, HA, HF, HS⟩ := hrel
    have hRl : a + R2.length = N := by rw [← hs1.out, size_of hl1.out, List.length_append, HA.out]
    by_cases hlt : b ≤ N
    · have hd : decide ((b : Int) ≤ (N : Int)) = true := decide_eq_true (by omega)
      have hd2 : decide (b ≤ N) = true := decide_eq_true hlt
      have C := CINS.out dj _ S1.out hs1.out cs.flatten (R2.take 20) (R2.drop 20) (by rw [hl1.out, List.take_append_drop]) a b HA.out.symm (by rw [HA.out, List.length_take]; omega)
      have HC := hide C
      have eb : IntKind.i64.wrap ((b : Int) + 20) = (b : Int) + 20 := by rw [IntKind.wrap_i64]; omega
      have HAB := hide hab
      have HRL := hide hRl
      clear C hab hRl
      go_wp2_with fail
      refine HC.out.mono ?_
      rintro e w2 ⟨rfl, d2, M, S2, hs2, hl2, hm2, ho2⟩
      have S2' : Aside (PSW k w0 blk off d2 w2) := S2
      have hM20 : M.length = 20 := by rw [hm2, List.length_take]; have := HRL.out; have := HAB.out; omega
      have HM := hide hM20
      clear S2 hM20 hm2
      go_wp2
      go_roundg (N - b)
      case measure => have := HAB.out; omega
      case rel => exact ⟨b, b + 20, d2, cs ++ [M], R2.drop 20, rfl, by first | rfl | go_num, rfl, hlt, Nat.le_refl _, S2', hs2, by show _ = _; rw [hl2]; simp [List.append_assoc], by show _ = _; have := HM.out; have := HA.out; have := HAB.out; rw [List.flatten_append, List.length_append, show ([M] : List (List Pen)).flatten = M by simp]; omega, HF.out.snoc HM.out ho2.1, by
        have e1 : Sam keyP (cs.flatten ++ R2) ((cs ++ [M]).flatten ++ R2.drop 20) := by
          have := (Sam.refl (key := keyP) cs.flatten).app (ho2.2.app (Sam.refl (key := keyP) (R2.drop 20)))
          rw [List.take_append_drop] at this
          simpa [List.append_assoc] using this
        exact HS.out.trans e1⟩
    · have hd : decide ((b : Int) ≤ (N : Int)) = false := decide_eq_false (by omega)
      have hd2 : decide (b ≤ N) = false := decide_eq_false hlt
      have C := CINS.out dj _ S1.out hs1.out cs.flatten R2 [] (by rw [hl1.out]; simp) a N HA.out.symm (by rw [HA.out]; omega)
      have HC := hide C
      have hR20 : R2.length < 20 := by omega
      have HR20 := hide hR20
      clear C hab hRl hR20
      go_wp2_with fail
      refine HC.out.mono ?_
      rintro e w2 ⟨rfl, d2, M, S2, hs2, hl2, hm2, ho2⟩
      have S2' : Aside (PSW k w0 blk off d2 w2) := S2
      have hfin : ∃ ds : List (List Pen), d2.toList = ds.flatten ∧ Chk 20 ds ∧ Sam keyP l ds.flatten := by
        have e1 : Sam keyP l (cs.flatten ++ M) := HS.out.trans ((Sam.refl (key := keyP) cs.flatten).app ho2.2)
        by_cases hM : M.length = 0
        · have : M = [] := List.length_eq_zero_iff.1 hM
          subst this
          exact ⟨cs, by rw [hl2]; simp, HF.out.chk (by omega), by simpa using e1⟩
        · exact ⟨cs ++ [M], by rw [hl2]; simp, HF.out.chk_snoc (by omega) (by rw [hm2]; have := HR20.out; omega) ho2.1, by simpa using e1⟩
      have HFIN := hide hfin
      have hs2' := hide hs2
      clear S2 hfin hl2 hm2 ho2 hs2 S1 hs1 hl1 HA HF HS HC
      go_wp2
      go_loopg [6, 7, 8, 9] N (fun kx s6 s7 s8 s9 wr => ∃ (s : Nat) (dj : Array Pen), s6 = .int .i64 (s : Int) ∧ 1 ≤ s ∧ s ≤ 2 * N + 20 ∧ N - s ≤ kx ∧ Aside (PSW k w0 blk off dj wr) ∧ Hid (dj.size = N) ∧ Hid (∃ ds : List (List Pen), dj.toList = ds.flatten ∧ Chk s ds ∧ Sam keyP l ds.flatten))
      case atStart => exact ⟨20, d2, rfl, by omega, by omega, by omega, S2', hs2', HFIN⟩
      case round =>
        clear S2' hs2' HFIN
        obtain ⟨s, dj, rfl, hs1', hsN, hkx2, S1, hs1, HD⟩ := hrel
        obtain ⟨ds0, hl0, hc0, hsam0⟩ := HD.out
        by_cases hlt2 : s < N
        · have hd3 : decide ((s : Int) < (N : Int)) = true := decide_eq_true (by omega)
          have hd4 : decide (s < N) = true := decide_eq_true hlt2
          obtain ⟨t, ht⟩ : ∃ t, 2 * s = t := ⟨_, rfl⟩
          have et : 2 * (s : Int) = (t : Int) := by omega
          have et2 : (s : Int) * 2 = (t : Int) := by omega
          have rt : IntKind.i64.wrap (t : Int) = (t : Int) := by rw [IntKind.wrap_i64]; omega
          have HT := hide ht
          have hL0 := hide hl0
          have HC0 := hide hc0
          have HS0 := hide hsam0
          have S1' := S1
          have hs1'' := hs1
          clear ht hl0 hc0 hsam0 HD S1 hs1
          go_wp2
          go_loopg [7, 8] N (fun k3 s7 s8 wr => ∃ (a b : Nat) (dj : Array Pen) (cs ds : List (List Pen)), s7 = .int .i64 (a : Int) ∧ s8 = .int .i64 (b : Int) ∧ Hid (b = a + t) ∧ a ≤ N ∧ N - a ≤ k3 ∧ Aside (PSW k w0 blk off dj wr) ∧ Hid (dj.size = N) ∧ Hid (dj.toList = cs.flatten ++ ds.flatten) ∧ Hid (cs.flatten.length = a) ∧ Hid (Full t cs) ∧ Hid (Chk s ds) ∧ Hid (Sam keyP l (cs.flatten ++ ds.flatten)))
          case atStart => exact ⟨0, t, dj, [], ds0, rfl, rfl, by show _ = _; omega, Nat.zero_le _, Nat.le_refl _, S1', hs1'', by show _ = _; rw [hL0.out]; rfl, rfl, (fun c hc => by cases hc), HC0, HS0⟩
          case round =>
            clear S1' hs1'' hL0 HC0 HS0
            obtain ⟨a, b, dj, cs, ds, rfl, rfl, HB, haN, hk3, S1, hs1, hl1, HA, HF, HC, HS⟩ := hrel
            have hRl : a + ds.flatten.length = N := by rw [← hs1.out, size_of hl1.out, List.length_append, HA.out]
            obtain ⟨m, hm⟩ : ∃ m, a + s = m := ⟨_, rfl⟩
            have em : (a : Int) + (s : Int) = (m : Int) := by omega
            have rm : IntKind.i64.wrap (m : Int) = (m : Int) := by rw [IntKind.wrap_i64]; omega
            have HM := hide hm
            have HRL := hide hRl
            clear hm hRl
            by_cases hlt3 : b ≤ N
            · have hd5 : decide ((b : Int) ≤ (N : Int)) = true := decide_eq_true (by omega)
              have hd6 : decide (b ≤ N) = true := decide_eq_true hlt3
              obtain ⟨c, d, ds', rfl, lc, ld, sc, sd, hck⟩ := HC.out.two hs1' (by have := HRL.out; have := HB.out; have := HT.out; omega)
              have C := CSYM.out (c.length + d.length + 1) dj _ S1.out hs1.out cs.flatten c d ds'.flatten (by rw [hl1.out]; simp) sc sd (by omega) (by omega) (by omega) a m b HA.out.symm (by have := HM.out; omega) (by have := HM.out; have := HB.out; have := HT.out; omega)
              have HCC := hide C
              obtain ⟨b', hb'⟩ : ∃ b', b + t = b' := ⟨_, rfl⟩
              have eb : (b : Int) + (t : Int) = (b' : Int) := by omega
              have rb : IntKind.i64.wrap (b' : Int) = (b' : Int) := by rw [IntKind.wrap_i64]; have := HT.out; omega
              have HB' := hide hb'
              have LC : Hid (c.length + d.length = t) := by show _ = _; have := HT.out; omega
              have HCK := hide hck
              clear C hb' lc ld sc sd hck
              go_wp2_with fail
              refine HCC.out.mono ?_
              rintro e w2 ⟨rfl, d2, M, S2, hs2, hl2, hm2, ho2⟩
              have S2' : Aside (PSW k w0 blk off d2 w2) := S2
              have hMt : M.length = t := by rw [hm2]; exact LC.out
              have HMt := hide hMt
              have LT : Hid (1 ≤ t) := by show _ ≤ _; have := HT.out; omega
              clear S2 hMt hm2
              go_wp2
              go_roundg (N - b)
              case measure => have := HB.out; have := LT.out; omega
              case rel => exact ⟨b, b', d2, cs ++ [M], ds', rfl, by first | rfl | go_num, by show _ = _; have := HB'.out; omega, hlt3, Nat.le_refl _, S2', hs2, by show _ = _; rw [hl2]; simp [List.append_assoc], by show _ = _; have e1 := HMt.out; have e2 := HA.out; have e3 := HB.out; rw [List.flatten_append, List.length_append, show ([M] : List (List Pen)).flatten = M by simp]; omega, HF.out.snoc HMt.out ho2.1, HCK, by
                have e1 : Sam keyP (cs.flatten ++ (c :: d :: ds').flatten) ((cs ++ [M]).flatten ++ ds'.flatten) := by
                  have := (Sam.refl (key := keyP) cs.flatten).app (ho2.2.app (Sam.refl (key := keyP) ds'.flatten))
                  simpa [List.append_assoc] using this
                exact HS.out.trans e1⟩
            · have hd5 : decide ((b : Int) ≤ (N : Int)) = false := decide_eq_false (by omega)
              have hd6 : decide (b ≤ N) = false := decide_eq_false hlt3
              have few := HC.out.few (by have := HRL.out; have := HB.out; have := HT.out; omega)
              by_cases hmN : m < N
              · have hd7 : decide ((m : Int) < (N : Int)) = true := decide_eq_true (by omega)
                have hd8 : decide (m < N) = true := decide_eq_true hmN
                obtain ⟨c, d, hds, lc, ld1, ld2, sc, sd⟩ : ∃ c d, ds = [c, d] ∧ c.length = s ∧ 1 ≤ d.length ∧ d.length < s ∧ Srt keyP c ∧ Srt keyP d := by
                  have e1 := HRL.out
                  have e2 := HM.out
                  rcases few with h | ⟨c, h, h1, h2, h3⟩ | h
                  · rw [h] at e1; simp at e1; omega
                  · rw [h] at e1; simp at e1; omega
                  · exact h
                have hdl : m + d.length = N := by have e1 := HRL.out; have e2 := HM.out; rw [hds] at e1; simp at e1; omega
                have C := CSYM.out (c.length + d.length + 1) dj _ S1.out hs1.out cs.flatten c d [] (by rw [hl1.out, hds]; simp) sc sd (by omega) (by omega) (by omega) a m N HA.out.symm (by have := HM.out; omega) (by omega)
                have HCC := hide C
                have LM : Hid (1 ≤ c.length + d.length ∧ c.length + d.length ≤ t ∧ t ≤ 2 * N + 20 ∧ N - t + 1 ≤ N - s) := by have := HT.out; exact ⟨by omega, by omega, by omega, by omega⟩
                have HDS := hide hds
                clear C few hds lc ld1 ld2 sc sd hdl
                go_wp2_with fail
                refine HCC.out.mono ?_
                rintro e w2 ⟨rfl, d2, M, S2, hs2, hl2, hm2, ho2⟩
                have S2' : Aside (PSW k w0 blk off d2 w2) := S2
                have HM2 := hide hm2
                clear S2 hm2
                go_wp2
                go_roundg (N - t)
                case measure => have := LM.out; omega
                case rel =>
                  have lm := LM.out
                  have hm2 := HM2.out
                  refine ⟨t, d2, by first | rfl | go_num, by omega, lm.2.2.1, Nat.le_refl _, S2', hs2, cs ++ [M], by rw [hl2]; simp, HF.out.chk_snoc (by omega) (by omega) ho2.1, ?_⟩
                  have e0 := HS.out
                  rw [HDS.out] at e0
                  have e1 : Sam keyP (cs.flatten ++ [c, d].flatten) (cs ++ [M]).flatten := by
                    have := (Sam.refl (key := keyP) cs.flatten).app ho2.2
                    simpa [List.append_assoc] using this
                  exact e0.trans e1
              · have hd7 : decide ((m : Int) < (N : Int)) = false := decide_eq_false (by omega)
                have hd8 : decide (m < N) = false := decide_eq_false hmN
                have LM : Hid (1 ≤ t ∧ s ≤ t ∧ t ≤ 2 * N + 20 ∧ N - t + 1 ≤ N - s) := by have := HT.out; exact ⟨by omega, by omega, by omega, by omega⟩
                have hfin : Hid (∃ es : List (List Pen), dj.toList = es.flatten ∧ Chk t es ∧ Sam keyP l es.flatten) := by
                  have e1 := HRL.out
                  have e2 := HM.out
                  have lm := LM.out
                  rcases few with h | ⟨c, h, h1, h2, h3⟩ | ⟨c, d, h, h1, h2, h3, h4, h5⟩
                  · refine ⟨cs, by rw [hl1.out, h]; simp, HF.out.chk (by omega), ?_⟩
                    have := HS.out; rw [h] at this; simpa using this
                  · refine ⟨cs ++ [c], by rw [hl1.out, h]; simp, HF.out.chk_snoc h1 (by omega) h3, ?_⟩
                    have := HS.out; rw [h] at this; simpa using this
                  · rw [h] at e1; simp at e1; omega
                clear few
                go_wp2
                go_roundg (N - t)
                case measure => have := LM.out; omega
                case rel => exact ⟨t, dj, by first | rfl | go_num, LM.out.1, LM.out.2.2.1, Nat.le_refl _, S1, hs1, hfin⟩
        · have hd3 : decide ((s : Int) < (N : Int)) = false := decide_eq_false (by omega)
          have hd4 : decide (s < N) = false := decide_eq_false hlt2
          have hfl : ds0.flatten.length = N := by rw [← hl0, Array.length_toList]; exact hs1.out
          clear hd hd2
          go_wp2
          go_end0
          exact ⟨rfl, dj, ds0.flatten, S1.out, hs1.out, hl0, hc0.whole hs1' (by omega), hsam0⟩
end Go.Proofs.YtmmcoedgoekhgaaGreatDoor
/-
  The stable sort of a list of open adds of one's own.
-/
namespace Go.Proofs.YtmmcoedgoekhgaaGreatDoor
set_option maxRecDepth 20000
open Go.RowKit S Go.Shelf Go.Sort
set_option linter.unusedVariables false
set_option linter.unusedSimpArgs false
/-- One more, by ID, behind those of the same ID. -/
def placeP (l : List Pen) (p : Pen) : List Pen := l.takeWhile (fun q => decide (q.id ≤ p.id)) ++ p :: l.dropWhile (fun q => decide (q.id ≤ p.id))
def sortP (l : List Pen) : List Pen := l.foldl placeP []
theorem mem_tw {α : Type} {p : α → Bool} {x : α} : ∀ {l : List α}, x ∈ l.takeWhile p → p x = true
  | [], h => by cases h
  | y :: l, h => by
    rw [List.takeWhile_cons] at h
    split at h
    · rcases List.mem_cons.1 h with rfl | h
      · assumption
      · exact mem_tw h
    · cases h
theorem place_sorts {l : List Pen} {p : Pen} (h : Srt keyP l) : Sorts keyP (l ++ [p]) (placeP l p) := by
  have e : l = l.takeWhile (fun q => decide (q.id ≤ p.id)) ++ l.dropWhile (fun q => decide (q.id ≤ p.id)) := (List.takeWhile_append_dropWhile).symm
  have h' := h
  rw [e] at h'
  have := merge_last (key := keyP) (x := p) h' (fun y hy => of_decide_eq_true (mem_tw (p := fun q : Pen => decide (q.id ≤ p.id)) hy)) (by
    intro y hy
    have hs := (List.pairwise_append.1 h').2.1
    cases hd : l.dropWhile (fun q => decide (q.id ≤ p.id)) with
    | nil => rw [hd] at hy; cases hy
    | cons z zs =>
      have hz : ¬ (decide (z.id ≤ p.id) = true) := by
        have := List.head_dropWhile_not (fun q : Pen => decide (q.id ≤ p.id)) (l := l) (by rw [hd]; simp)
        simp only [hd, List.head_cons] at this
        simp only [this]; simp
      have hz' : p.id < z.id := by simpa using hz
      rw [hd] at hy hs
      rcases List.mem_cons.1 hy with rfl | hy
      · exact hz'
      · have : z.id ≤ y.id := (List.pairwise_cons.1 hs).1 y hy
        exact Int.lt_of_lt_of_le hz' this)
  rw [← e] at this
  exact this
theorem fold_sorts : ∀ (l acc l0 : List Pen), Sorts keyP l0 acc → Sorts keyP (l0 ++ l) (l.foldl placeP acc)
  | [], acc, l0, h => by simpa using h
  | p :: l, acc, l0, h => by
    have h1 := place_sorts (p := p) h.1
    have := fold_sorts l (placeP acc p) (l0 ++ [p]) ⟨h1.1, (h.2.app (Sam.refl [p])).trans h1.2⟩
    simpa [List.append_assoc] using this
theorem sortP_sorts (l : List Pen) : Sorts keyP l (sortP l) := by
  have := fold_sorts l [] [] ⟨List.Pairwise.nil, Sam.refl _⟩
  simpa [sortP] using this
theorem sorts_eq {l M : List Pen} (h : Sorts keyP l M) : M = sortP l := sorts_unique M (sortP l) h.1 (sortP_sorts l).1 (h.2.symm.trans (sortP_sorts l).2)
theorem place_length (l : List Pen) (p : Pen) : (placeP l p).length = l.length + 1 := by
  unfold placeP
  have e := congrArg List.length (List.takeWhile_append_dropWhile (p := fun q : Pen => decide (q.id ≤ p.id)) (l := l))
  rw [List.length_append] at e
  simp; omega
theorem fold_length : ∀ (l acc : List Pen), (l.foldl placeP acc).length = acc.length + l.length
  | [], acc => by simp
  | p :: l, acc => by rw [List.foldl_cons, fold_length l, place_length]; simp; omega
theorem sortP_length (l : List Pen) : (sortP l).length = l.length := by unfold sortP; rw [fold_length]; simp
def cellsP (l : List Pen) : List Value := l.flatMap Pen.enc
theorem cellsP_length : ∀ l : List Pen, (cellsP l).length = l.length * 35
  | [] => rfl
  | s :: l => by
    have : cellsP (s :: l) = s.enc ++ cellsP l := by simp [cellsP]
    rw [this, List.length_append, s.enc_len, cellsP_length l, List.length_cons]; omega
theorem cellsP_append (a b : List Pen) : cellsP (a ++ b) = cellsP a ++ cellsP b := by simp [cellsP]
theorem cellsP_one (s : Pen) : cellsP [s] = s.enc := by simp [cellsP]
theorem cellsP_get : ∀ (l : List Pen) (k : Nat) (s : Pen) (hk : l[k]? = some s) (j : Nat), j < 35 → (cellsP l)[k * 35 + j]? = s.enc[j]?
  | [], k, s, hk, j, hj => by simp at hk
  | x :: l, 0, s, hk, j, hj => by
    simp only [List.getElem?_cons_zero, Option.some.injEq] at hk
    subst hk
    have e : cellsP (x :: l) = x.enc ++ cellsP l := by simp [cellsP]
    rw [e, List.getElem?_append_left (by rw [x.enc_len]; omega), Nat.zero_mul, Nat.zero_add]
  | x :: l, k + 1, s, hk, j, hj => by
    simp only [List.getElem?_cons_succ] at hk
    have e : cellsP (x :: l) = x.enc ++ cellsP l := by simp [cellsP]
    rw [e, List.getElem?_append_right (by rw [x.enc_len]; omega), x.enc_len, show (k + 1) * 35 + j - 35 = k * 35 + j by omega]
    exact cellsP_get l k s hk j hj
theorem flat_cells (l : List Pen) (t : Nat) (ht : t < l.length * 35) : some (flatK Pen.enc 35 l.toArray)[t]! = (cellsP l)[t]? := by
  have h3 : t / 35 < l.length := by omega
  rw [get_flatK _ _ _ t (by rw [List.size_toArray]; omega)]
  have e : t = t / 35 * 35 + t % 35 := by omega
  have hg := cellsP_get l (t / 35) l[t / 35] (List.getElem?_eq_getElem h3) (t % 35) (by omega)
  conv => rhs; rw [e]
  rw [hg]
  have hx : l.toArray[t / 35]! = l[t / 35] := by rw [getElem!_pos _ _ (by rw [List.size_toArray]; exact h3)]; rfl
  rw [hx]
  have : t % 35 < (l[t / 35].enc).length := by rw [Pen.enc_len]; omega
  rw [List.getElem?_eq_getElem this]
  exact congrArg some (getElem!_pos (l[t / 35].enc) (t % 35) this)
def OwnP (B : Nat) (w : World) (v : Value) (l : List Pen) : Prop := w.ownsRow B 186 35 v l.length (cellsP l)
theorem holds_P {w : World} {g : Nat} {cur : Array Value} {e : TypeId} {l : List Pen} (hb : w.heap[g]? = some (.cells cur e (0, 0))) (ht : cur.toList.take (l.length * 35) = cellsP l) : HoldsK Pen.enc 35 w g 0 l.toArray := by
  intro t h
  rw [size_flatK, List.size_toArray] at h
  refine ⟨?_, by simp [World.frozen?, hb]⟩
  rw [Nat.zero_add, cell_of_row w g t cur e (0, 0) hb, ← Array.getElem?_toList]
  have h1 : (cur.toList.take (l.length * 35))[t]? = (cellsP l)[t]? := by rw [ht]
  rw [List.getElem?_take_of_lt h] at h1
  rw [h1, ← flat_cells l t h]; rfl
theorem take_putP (cur : Array Value) (l : List Pen) (h : l.length * 35 ≤ cur.size) : (putCells id 0 (flatK Pen.enc 35 l.toArray) cur).toList.take (l.length * 35) = cellsP l := by
  apply List.ext_getElem?
  intro j
  by_cases hj : j < l.length * 35
  · rw [List.getElem?_take_of_lt hj, Array.getElem?_toList, ← flat_cells l j hj]
    have hj2 : j < (flatK Pen.enc 35 l.toArray).size := by rw [size_flatK, List.size_toArray]; exact hj
    simp [putCells, show j < cur.size by omega, hj]
  · rw [List.getElem?_take_eq_none (by omega), List.getElem?_eq_none (by rw [cellsP_length]; omega)]
set_option maxRecDepth 100000 in
set_option maxHeartbeats 1000000 in
theorem sort_nil (w : World) : Calls Tryz.prog 186 #[.slice none 0 0, byID] w fun e w' => e = .returned (.tuple #[]) ∧ w' = w := by
  have hI : Calls Tryz.prog 215 #[.slice none 0 0, .int .i64 0, .int .i64 0, byID] w fun e w' => e = .returned (.tuple #[]) ∧ w' = w := by
    unfold byID
    go_enter Tryz.func215, Tryz.ntmps215
    go_wp2
    refine wp_loop_rounds 1 ?_
    rw [rounds_succ]
    go_wp2
    go_end0
    exact ⟨rfl, rfl⟩
  have hS : Calls Tryz.prog 208 #[.slice none 0 0, .int .i64 0, byID] w fun e w' => e = .returned (.tuple #[]) ∧ w' = w := by
    have HI := hide hI
    unfold byID at HI ⊢
    clear hI
    go_enter Tryz.func208, Tryz.ntmps208
    go_wp2
    refine wp_loop_rounds 1 ?_
    rw [rounds_succ]
    go_wp2_with (go_at_call 215; go_must (refine HI.out.mono ?_); rintro e wx ⟨rfl, hx⟩; obtain rfl := hx.symm; clear hx)
    refine wp_loop_rounds 1 ?_
    rw [rounds_succ]
    go_wp2
    go_end0
    exact ⟨rfl, rfl⟩
  have HS := hide hS
  unfold byID at HS ⊢
  clear hI hS
  go_enter Tryz.func186, Tryz.ntmps186
  go_wp2_with (go_at_call 208; go_must (refine HS.out.mono ?_); rintro e wx ⟨rfl, hx⟩; obtain rfl := hx.symm; clear hx)
  go_end0
  exact ⟨rfl, rfl⟩
set_option maxRecDepth 100000 in
set_option maxHeartbeats 1000000 in
theorem sort_any (B : Nat) (w : World) (v : Value) (l : List Pen) (h : OwnP B w v l) (hz : l.length ≤ 4000000000000) : Calls Tryz.prog 186 #[v, byID] w fun e w' => e = .returned (.tuple #[]) ∧ OwnP B w' v (sortP l) ∧ w.grownBy w' v.ownBlock := by
  obtain ⟨hl, ⟨rfl, hn⟩ | ⟨g, cap, cur, rfl, hb, hg, h1, h2, h3, h4⟩⟩ := h
  · have : l = [] := List.length_eq_zero_iff.1 hn
    subst this
    refine (sort_nil w).mono ?_
    rintro e w' ⟨rfl, rfl⟩
    exact ⟨rfl, World.ownsRow_nil _ _ _ _, ⟨rfl, rfl, rfl, Nat.le_refl _, fun _ _ _ => rfl⟩⟩
  · have hH := holds_P hg h4
    have hlt : g < w.heap.size := (Array.getElem?_eq_some_iff.1 hg).1
    have C := stable_any Tryz.prog 35 ptA w g 0 l.length cap l.toArray l.toArray (by simp) hz ⟨fun x => x.enc_len, fun x => x.one, hH, hlt⟩ w (SWK.start hH) (by simp) l (by simp)
    have C2 : Calls Tryz.prog 208 #[.slice (some ⟨g, 0, none⟩) l.length cap, .int .i64 (l.length : Int), byID] w fun e w' => e = .returned (.tuple #[]) ∧ OwnP B w' (.slice (some ⟨g, 0, none⟩) l.length cap) (sortP l) ∧ w.grownBy w' (some g) := by
      refine C.mono ?_
      rintro e w' ⟨rfl, dk', M, ⟨n, os, hw⟩, hs, hM, hso⟩
      have hMl : M = sortP l := sorts_eq hso
      have hdk : dk' = (sortP l).toArray := by rw [← hMl, ← hM]
      subst hw
      have hlen := sortP_length l
      refine ⟨rfl, ?_, ?_⟩
      · refine ⟨by rw [cellsP_length], .inr ⟨g, cap, putCells id 0 (flatK Pen.enc 35 dk') cur, by rw [hlen], hb, ?_, by rw [hlen]; exact h1, h2, by simp [putCells, h3], ?_⟩⟩
        · unfold sortWorldK putRowK
          rw [heap_grow_old _ _ (by simpa [putRow, mapBlock, Sort.ahead] using hlt)]
          simp [putRow, mapBlock, Sort.ahead, Array.getElem?_modify, hg, onCells]
        · rw [hdk]
          exact take_putP cur (sortP l) (by rw [hlen, h3]; exact Nat.mul_le_mul_right 35 h1)
      · unfold sortWorldK putRowK
        refine ⟨rfl, rfl, rfl, by simp [putRow, mapBlock, Sort.ahead], fun k hk hne => ?_⟩
        rw [heap_grow_old _ _ (by simpa [putRow, mapBlock, Sort.ahead] using hk)]
        have : g ≠ k := fun e => hne (by rw [e])
        simp [putRow, mapBlock, Sort.ahead, Array.getElem?_modify, this]
    have HC := hide C2
    obtain ⟨n, hn⟩ : ∃ n, l.length = n := ⟨_, rfl⟩
    rw [hn] at HC ⊢
    have HP : Hid (∀ w', OwnP B w' (.slice (some ⟨g, 0, none⟩) n cap) (sortP l) → OwnP B w' (.slice (some ⟨g, 0, none⟩) n cap) (sortP l)) := fun _ h => h
    show Calls _ _ _ _ fun e w' => e = .returned (.tuple #[]) ∧ OwnP B w' (.slice (some ⟨g, 0, none⟩) n cap) (sortP l) ∧ w.grownBy w' (some g)
    unfold byID at HC ⊢
    clear C C2 hH hlt h4 h3 h2 h1 hg hb hl hz hn
    go_enter Tryz.func186, Tryz.ntmps186
    go_wp2_with fail
    refine HC.out.mono ?_
    rintro e w2 ⟨rfl, hO, hG⟩
    go_wp2
    go_end0
    exact ⟨rfl, hO, hG⟩
end Go.Proofs.YtmmcoedgoekhgaaGreatDoor
