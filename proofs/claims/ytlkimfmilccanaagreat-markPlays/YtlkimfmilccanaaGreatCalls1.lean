/-
  Sync, Truncate, Remove, Read.
-/
import Derived.Test.YtlkimfmilccanaaGreatFTrunc
namespace Go.Proofs.YtlkimfmilccanaaGreat
open Go.RowKit Go.Maps Go.WideMaps
theorem sync_off {A : AD} {k : Key} (h : A.pow.off = true) : A.sync k = (9, A) := by unfold AD.sync; rw [if_pos h]
theorem sync_none {A : AD} {k : Key} (h : A.pow.off = false) (hk : fget A.fs k = none) : A.sync k = (5, A) := by unfold AD.sync; rw [if_neg (by rw [h]; simp), hk]
theorem sync_count {A : AD} {k : Key} {F : AF} (h : A.pow.off = false) (hk : fget A.fs k = some F) (hc : (A.pow.count 2).1 ≠ 0) : A.sync k = ((A.pow.count 2).1, { A with pow := (A.pow.count 2).2 }) := by unfold AD.sync; rw [if_neg (by rw [h]; simp), hk]; simp only; rw [if_pos hc]
theorem sync_some {A : AD} {k : Key} {F : AF} (h : A.pow.off = false) (hk : fget A.fs k = some F) (hc : (A.pow.count 2).1 = 0) : A.sync k = (0, ⟨A.cap, fset A.fs k F.sync, (A.pow.count 2).2⟩) := by unfold AD.sync; rw [if_neg (by rw [h]; simp), hk]; simp only; rw [if_neg (by omega)]
set_option maxRecDepth 5000 in
set_option maxHeartbeats 1000000 in
theorem sync_any (p m : Nat) (con : Key → FC) (A : AD) (w : World) (h : DiskAt w p m con A) (s : ByteArray) (hs : s.size ≤ maxLen) :
    Calls Tryz.prog 39 #[.pointer (some ⟨p, 0, none⟩), .string s] w fun e w' => e = .returned (.int .i64 (A.sync s.data.toList).1) ∧ ∃ con', DStep p m con A w con' (A.sync s.data.toList).2 w' := by
  have HH := hide h
  clear h
  go_enter Tryz.func39, Tryz.ntmps39
  go_wp2_with fail
  refine (find_any p m con A _ HH.out s hs).mono ?_
  rintro e w1 ⟨rfl, ⟨ho, rfl⟩ | ⟨ho, hk, rfl⟩ | ⟨F, ho, hk, rfl⟩⟩
  · have HE := hide (sync_off (k := s.data.toList) ho)
    clear ho
    go_wp2
    go_ret
    rw [HE.out]
    exact ⟨rfl, con, DStep.refl HH.out⟩
  · have HE := hide (sync_none ho hk)
    clear ho hk
    go_wp2
    go_ret
    rw [HE.out]
    exact ⟨rfl, con, DStep.refl HH.out⟩
  · have HO := hide ho
    have HK := hide hk
    clear ho hk
    go_wp2_with fail
    refine (count_any p m con A _ HH.out 2).mono ?_
    rintro e w2 ⟨rfl, hD2, hT2⟩
    have S2 : DStep p m con A w1 con { A with pow := (A.pow.count 2).2 } w2 := DStep.pow hD2 rfl hT2
    by_cases hc : (A.pow.count 2).1 = 0
    · have HE := hide (sync_some HO.out HK.out hc)
      rw [hc]
      clear hc
      have hcall := fsync_any w2 (con s.data.toList) F (hD2.file _ F HK.out)
      go_wp2_with fail
      refine hcall.mono ?_
      rintro e w3 ⟨rfl, c', hf3, hs3⟩
      have S3 := S2.trans (DStep.file hD2 HK.out hf3 hs3 (by have := hD2.ok.space; simp only [AF.sync] at *; omega))
      go_wp2
      go_ret
      rw [HE.out]
      exact ⟨rfl, _, S3⟩
    · obtain ⟨E, hE⟩ : ∃ E, (A.pow.count 2).1 = E := ⟨_, rfl⟩
      have HE := hide (sync_count HO.out HK.out hc)
      rw [hE] at hc HE ⊢
      have hcb : (E != 0) = true := by rw [bne_iff_ne]; exact hc
      clear hc hE
      go_wp2
      go_ret
      rw [HE.out]
      exact ⟨rfl, con, S2⟩
theorem trunc_off {A : AD} {k : Key} {n : Int} (h : A.pow.off = true) : A.trunc k n = (9, A) := by unfold AD.trunc; rw [if_pos h]
theorem trunc_none {A : AD} {k : Key} {n : Int} (h : A.pow.off = false) (hk : fget A.fs k = none) : A.trunc k n = (5, A) := by unfold AD.trunc; rw [if_neg (by rw [h]; simp), hk]
theorem trunc_bad {A : AD} {k : Key} {n : Int} {F : AF} (h : A.pow.off = false) (hk : fget A.fs k = some F) (hc : n < 0 ∨ n > F.seen.length) : A.trunc k n = (1, A) := by unfold AD.trunc; rw [if_neg (by rw [h]; simp), hk]; simp only; rw [if_pos hc]
theorem trunc_some {A : AD} {k : Key} {n : Int} {F : AF} (h : A.pow.off = false) (hk : fget A.fs k = some F) (hc : ¬ (n < 0 ∨ n > F.seen.length)) : A.trunc k n = (0, { A with fs := fset A.fs k (F.trunc n.toNat) }) := by unfold AD.trunc; rw [if_neg (by rw [h]; simp), hk]; simp only; rw [if_neg hc]
set_option maxRecDepth 5000 in
set_option maxHeartbeats 1000000 in
theorem trunc_any (p m : Nat) (con : Key → FC) (A : AD) (w : World) (h : DiskAt w p m con A) (s : ByteArray) (hs : s.size ≤ maxLen) (n : Int) :
    Calls Tryz.prog 59 #[.pointer (some ⟨p, 0, none⟩), .string s, .int .i64 n] w fun e w' => e = .returned (.int .i64 (A.trunc s.data.toList n).1) ∧ ∃ con', DStep p m con A w con' (A.trunc s.data.toList n).2 w' := by
  have HH := hide h
  clear h
  go_enter Tryz.func59, Tryz.ntmps59
  go_wp2_with fail
  refine (find_any p m con A _ HH.out s hs).mono ?_
  rintro e w1 ⟨rfl, ⟨ho, rfl⟩ | ⟨ho, hk, rfl⟩ | ⟨F, ho, hk, rfl⟩⟩
  · have HE := hide (trunc_off (k := s.data.toList) (n := n) ho)
    clear ho
    go_wp2
    go_ret
    rw [HE.out]
    exact ⟨rfl, con, DStep.refl HH.out⟩
  · have HE := hide (trunc_none (n := n) ho hk)
    clear ho hk
    go_wp2
    go_ret
    rw [HE.out]
    exact ⟨rfl, con, DStep.refl HH.out⟩
  · have HO := hide ho
    have HK := hide hk
    have hf := HH.out.file _ F hk
    have c0 := hf.c0
    obtain ⟨ad, cp, hv⟩ := hf.seen.shape
    rw [hv] at c0
    clear ho hk hf hv
    by_cases h0 : n < 0
    · have d0 : decide (n < 0) = true := decide_eq_true h0
      have HE := hide (trunc_bad HO.out HK.out (.inl h0))
      clear h0
      go_wp2
      go_ret
      rw [HE.out]
      exact ⟨rfl, con, DStep.refl HH.out⟩
    · have d0 : decide (n < 0) = false := decide_eq_false h0
      by_cases h1 : (F.seen.length : Int) < n
      · have d1 : decide ((F.seen.length : Int) < n) = true := decide_eq_true h1
        have HE := hide (trunc_bad HO.out HK.out (.inr h1))
        clear h1
        go_wp2
        go_ret
        rw [HE.out]
        exact ⟨rfl, con, DStep.refl HH.out⟩
      · have d1 : decide ((F.seen.length : Int) < n) = false := decide_eq_false h1
        have HE := hide (trunc_some (n := n) HO.out HK.out (by omega))
        obtain ⟨q, rfl⟩ : ∃ q : Nat, n = (q : Int) := ⟨n.toNat, by omega⟩
        have d2 : decide (F.seen.length < q) = false := decide_eq_false (by omega)
        have hcall := ftrunc_any w1 (con s.data.toList) F (HH.out.file _ F HK.out) q (by omega)
        clear h0 h1
        go_wp2_with fail
        refine hcall.mono ?_
        rintro e w3 ⟨rfl, c', hf3, hs3⟩
        have S3 := DStep.file HH.out HK.out hf3 hs3 (by have := HH.out.ok.space; have := fused_get_le HK.out; simp only [AF.trunc, List.length_take]; omega)
        go_wp2
        go_ret
        rw [HE.out, Int.toNat_natCast]
        exact ⟨rfl, _, S3⟩
/-! ### files that go -/
theorem DStep.del {w w' : World} {p m : Nat} {con : Key → FC} {A : AD} {k : Key} (h : DiskAt w p m con A) (t : Turn (fun b => b = m) w w') {n : Nat} (hm : w'.ownsMap Tryz.prog 9 ptrElem m n ((fsD con A.fs).del (.string k))) :
    DStep p m con A w con { A with fs := fdel A.fs k } w' := by
  have hsub : ∀ x G, fget (fdel A.fs k) x = some G → fget A.fs x = some G := fun x G hx => by
    by_cases e : x = k
    · subst e; rw [fget_fdel_same] at hx; cases hx
    · rw [fget_fdel_ne e] at hx; exact hx
  have hl := fdel_length (fs := A.fs) (k := k)
  refine ⟨⟨⟨h.ok.c0, h.ok.c1, fdel_sorted h.ok.sorted, fun q hq => h.ok.names q (List.mem_filter.1 hq).1, ?_, fun q hq => h.ok.files q (List.mem_filter.1 hq).1, ?_, h.ok.pow⟩, ?_, ?_, fun x G hx => ?_, fun x G hx => h.pf x G (hsub x G hx), fun x G y G' hx hy => h.apart x G y G' (hsub x G hx) (hsub y G' hy)⟩, t.mono (fun _ hb => .inr (.inl hb)), fun b hb => ?_⟩
  · have := h.ok.few
    show (fdel A.fs k).length ≤ 16
    omega
  · have h1 := fused_fdel_le (fs := A.fs) (k := k)
    have h2 := h.ok.space
    show (fused (fdel A.fs k) : Int) ≤ A.cap
    omega
  · rw [t.block p (lt_of_some h.cells) h.pm]; exact h.cells
  · rw [fsD_del] at hm
    refine ownsMap_exact hm ?_
    rw [fsD_size]
    have := h.ok.few
    omega
  · have hx' := hsub x G hx
    exact (h.file x G hx').turn t (fun b hb e' => (h.pf x G hx').2 (e' ▸ hb))
  · rcases hb with rfl | rfl | ⟨x, G, hx, hb⟩
    · exact .inl (.inl rfl)
    · exact .inl (.inr (.inl rfl))
    · exact .inl (.inr (.inr ⟨x, G, hsub x G hx, hb⟩))
theorem remove_off {A : AD} {k : Key} (h : A.pow.off = true) : A.remove k = (9, A) := by unfold AD.remove; rw [if_pos h]
theorem remove_none {A : AD} {k : Key} (h : A.pow.off = false) (hk : fget A.fs k = none) : A.remove k = (5, A) := by unfold AD.remove; rw [if_neg (by rw [h]; simp), hk]
theorem remove_some {A : AD} {k : Key} {F : AF} (h : A.pow.off = false) (hk : fget A.fs k = some F) : A.remove k = (0, { A with fs := fdel A.fs k }) := by unfold AD.remove; rw [if_neg (by rw [h]; simp), hk]
set_option maxRecDepth 5000 in
set_option maxHeartbeats 1000000 in
theorem remove_any (p m : Nat) (con : Key → FC) (A : AD) (w : World) (h : DiskAt w p m con A) (s : ByteArray) (hs : s.size ≤ maxLen) :
    Calls Tryz.prog 65 #[.pointer (some ⟨p, 0, none⟩), .string s] w fun e w' => e = .returned (.int .i64 (A.remove s.data.toList).1) ∧ ∃ con', DStep p m con A w con' (A.remove s.data.toList).2 w' := by
  have HH := hide h
  clear h
  go_enter Tryz.func65, Tryz.ntmps65
  go_wp2_with fail
  refine (find_any p m con A _ HH.out s hs).mono ?_
  rintro e w1 ⟨rfl, ⟨ho, rfl⟩ | ⟨ho, hk, rfl⟩ | ⟨F, ho, hk, rfl⟩⟩
  · have HE := hide (remove_off (k := s.data.toList) ho)
    clear ho
    go_wp2
    go_ret
    rw [HE.out]
    exact ⟨rfl, con, DStep.refl HH.out⟩
  · have HE := hide (remove_none ho hk)
    clear ho hk
    go_wp2
    go_ret
    rw [HE.out]
    exact ⟨rfl, con, DStep.refl HH.out⟩
  · have HE := hide (remove_some ho hk)
    have c1 := HH.out.c1
    have HKY := hide (keyOf_string_mk Tryz.underlying9 hs)
    clear ho hk
    go_wp2_with (first | (at_delete; refine wpList_delete_own _ rfl _ _ 82 9 rfl 94 law9 Tryz.underlying82 ptrElem m 16 _ rfl HH.out.files _ _ rfl HKY.out ?_; intro w3 hown3 hturn3) | go_in)
    have S3 := DStep.del HH.out ((Turn.of_grown hturn3.grown).mono (fun b hb => by simpa using hb.symm)) hown3
    go_ret
    rw [HE.out]
    exact ⟨rfl, _, S3⟩
/-! ### Read -/
theorem read_off {A : AD} {k : Key} {a n : Int} (h : A.pow.off = true) : A.read k a n = ([], 9) := by unfold AD.read; rw [if_pos h]
theorem read_none {A : AD} {k : Key} {a n : Int} (h : A.pow.off = false) (hk : fget A.fs k = none) : A.read k a n = ([], 5) := by unfold AD.read; rw [if_neg (by rw [h]; simp), hk]
theorem read_bad {A : AD} {k : Key} {a n : Int} {F : AF} (h : A.pow.off = false) (hk : fget A.fs k = some F) (hc : a < 0 ∨ n < 0) : A.read k a n = ([], 1) := by unfold AD.read; rw [if_neg (by rw [h]; simp), hk]; simp only; rw [if_pos hc]
theorem read_some {A : AD} {k : Key} {a n : Int} {F : AF} (h : A.pow.off = false) (hk : fget A.fs k = some F) (hc : ¬ (a < 0 ∨ n < 0)) : A.read k a n = ((F.seen.drop a.toNat).take n.toNat, 0) := by unfold AD.read; rw [if_neg (by rw [h]; simp), hk]; simp only; rw [if_neg hc]
theorem DiskAt.drewN {w : World} {p m : Nat} {con : Key → FC} {A : AD} (h : DiskAt w p m con A) (n : Nat) : DiskAt (w.drewN n) p m con A := h.same (fun _ _ => rfl)
theorem below_drewN (w : World) (n : Nat) : Below w.heap.size w (w.drewN n) := ⟨rfl, rfl, rfl, Nat.le_refl _, fun _ _ => rfl⟩
set_option maxRecDepth 5000 in
set_option maxHeartbeats 1000000 in
theorem read_any (p m : Nat) (con : Key → FC) (A : AD) (w : World) (h : DiskAt w p m con A) (s : ByteArray) (hs : s.size ≤ maxLen) (a n : Int) :
    Calls Tryz.prog 12 #[.pointer (some ⟨p, 0, none⟩), .string s, .int .i64 a, .int .i64 n] w fun e w' => e = .returned (.tuple #[.string ⟨(A.read s.data.toList a n).1.toArray⟩, .int .i64 (A.read s.data.toList a n).2]) ∧ Below w.heap.size w w' := by
  have HH := hide h
  clear h
  go_enter Tryz.func12, Tryz.ntmps12
  go_wp2_with fail
  refine (find_any p m con A _ HH.out s hs).mono ?_
  rintro e w1 ⟨rfl, ⟨ho, rfl⟩ | ⟨ho, hk, rfl⟩ | ⟨F, ho, hk, rfl⟩⟩
  · have HE := hide (read_off (k := s.data.toList) (a := a) (n := n) ho)
    clear ho
    go_wp2
    go_ret2
    rw [HE.out]
    exact ⟨rfl, Below.refl _ _⟩
  · have HE := hide (read_none (a := a) (n := n) ho hk)
    clear ho hk
    go_wp2
    go_ret2
    rw [HE.out]
    exact ⟨rfl, Below.refl _ _⟩
  · have HO := hide ho
    have HK := hide hk
    have hf := HH.out.file _ F hk
    have c0 := hf.c0
    obtain ⟨ad, cp, hv⟩ := hf.seen.shape
    rw [hv] at c0
    clear ho hk
    by_cases h0 : a < 0
    · have d0 : decide (a < 0) = true := decide_eq_true h0
      have HE := hide (read_bad (n := n) HO.out HK.out (.inl h0))
      clear h0
      go_wp2
      go_ret2
      rw [HE.out]
      exact ⟨rfl, Below.refl _ _⟩
    · have d0 : decide (a < 0) = false := decide_eq_false h0
      by_cases h1 : n < 0
      · have d1 : decide (n < 0) = true := decide_eq_true h1
        have HE := hide (read_bad (a := a) HO.out HK.out (.inr h1))
        clear h1
        go_wp2
        go_ret2
        rw [HE.out]
        exact ⟨rfl, Below.refl _ _⟩
      · have d1 : decide (n < 0) = false := decide_eq_false h1
        have HE := hide (read_some (a := a) (n := n) HO.out HK.out (by omega))
        obtain ⟨an, rfl⟩ : ∃ an : Nat, a = (an : Int) := ⟨a.toNat, by omega⟩
        obtain ⟨nn, rfl⟩ : ∃ nn : Nat, n = (nn : Int) := ⟨n.toNat, by omega⟩
        obtain ⟨o, ho⟩ : ∃ o, min an F.seen.length = o := ⟨_, rfl⟩
        have hol : o ≤ F.seen.length := by rw [← ho]; exact Nat.min_le_right _ _
        obtain ⟨u, hsl, hp⟩ := run_slice_from w1 hf.seen o hol
        obtain ⟨k, hkk⟩ : ∃ k, min nn (F.seen.length - o) = k := ⟨_, rfl⟩
        obtain ⟨u2, hsl2, hp2⟩ := run_slice_less hp k (by rw [← hkk]; exact Nat.min_le_right _ _)
        have hkl : o + k ≤ F.seen.length := by rw [← hkk]; have := Nat.min_le_right nn (F.seen.length - o); omega
        have hcv : ∀ q, (convert 42 9 u2).run Tryz.prog (w1.drewN q) = .ok (.string ⟨((F.seen.drop o).take k).toArray⟩) (w1.drewN q) := fun q => run_conv_piece (w1.drewN q) (hf.seen.same (fun _ _ => rfl)) hp2 hkl
        have hm1 : (if F.seen.length < an then (F.seen.length : Int) else (an : Int)) = (o : Int) := by split <;> omega
        have hm2 : (if F.seen.length - o < nn then ((F.seen.length - o : Nat) : Int) else (nn : Int)) = (k : Int) := by split <;> omega
        have HT : Hid ((F.seen.drop o).take k = (F.seen.drop an).take nn) := by
          show _ = _
          by_cases hx : an ≤ F.seen.length
          · have e1 : o = an := by omega
            rw [e1] at hkk ⊢
            by_cases hy : nn ≤ F.seen.length - an
            · rw [show k = nn by omega]
            · rw [List.take_of_length_le (by rw [List.length_drop]; omega), List.take_of_length_le (by rw [List.length_drop]; omega)]
          · rw [List.drop_of_length_le (by omega : F.seen.length ≤ an), List.drop_of_length_le (by omega : F.seen.length ≤ o)]; simp
        obtain ⟨ad2, cp2, hu, _⟩ := hp
        subst hu
        rw [hv] at hsl
        clear hp2 hf hv h0 h1 hkk ho
        go_wp2
        go_quiet (fail)
        have hcq := hcv nq
        go_wp2
        go_ret2
        rw [HE.out, Int.toNat_natCast, Int.toNat_natCast, ← HT.out]
        exact ⟨rfl, below_drewN _ _⟩
end Go.Proofs.YtlkimfmilccanaaGreat
