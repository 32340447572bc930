/-
  fits.
-/
import Derived.Test.YtlkimfmilccanaaGreatRanges
import Derived.Deep.RegionHeld3
import Derived.ChangeKeysEq
namespace Go.Proofs.YtlkimfmilccanaaGreat
open Go.RowKit Go.Maps Go.WideMaps
theorem takeH {P : Program} {ops : Array Oper} {Q : Exit → Act → World → Prop} {md : Region.Mode} {S : World → Prop} (i : Nat) (d : Option Tmp) (v : Value) {oi : Oper} {fuel : Nat} {listed : Array Bool} {a : Act} {w : World} (hi : ops[i]? = some oi) (hd : oi.dst = d)
    (hs : Region.noSelect ops = true) (hf : Region.free md ops listed i = true) (hr : (Region.ready md ops listed).contains i = true)
    (hQ : ∀ c a w, Q (.panic c) (a.put oi.dst v) w → Q (.panic c) a w) (hw : Region.wanted oi (yielded ops a.tmps) = true) (hy : ∀ w, S w → (execOp a.eval oi).run P w = .ok (.value v) w) (hS : S w)
    (h : wpAnyH P md ops Q S fuel (listed.setIfInBounds i true) (a.put d v) w) : wpAnyH P md ops Q S (fuel + 1) listed a w :=
  wpAnyH_take hi hs hf hr hQ (.inl ⟨hw, hy⟩) hS (by rw [hd]; exact h)
/-- The frame's rules, and one operation taken, in short. -/
theorem pA {α : Type} {l : List α} {i : Nat} {a : α} : l.toArray.setIfInBounds i a = (l.set i a).toArray := List.setIfInBounds_toArray ..
theorem pB {α : Type} {l : List α} {x a : α} : (x :: l).set 0 a = a :: l := List.set_cons_zero
theorem pC {α : Type} {l : List α} {x a : α} {n : Nat} : (x :: l).set (n + 1) a = x :: l.set n a := List.set_cons_succ
theorem tH {P : Program} {ops : Array Oper} {Q : Exit → Act → World → Prop} {md : Region.Mode} {S : World → Prop} (i : Nat) (d : Option Tmp) (v : Value) {oi : Oper} {fuel : Nat} {listed : Array Bool} {a : Act} {w : World} (hi : ops[i]? = some oi)
    (hy : ∀ w, S w → (execOp a.eval oi).run P w = .ok (.value v) w) (hS : S w) (h : wpAnyH P md ops Q S fuel (listed.setIfInBounds i true) (a.put d v) w) (hd : oi.dst = d := by rfl)
    (hs : Region.noSelect ops = true := by kernel_rfl) (hf : Region.free md ops listed i = true := by kernel_rfl) (hr : (Region.ready md ops listed).contains i = true := by kernel_rfl)
    (hQ : ∀ c a w, Q (.panic c) (a.put oi.dst v) w → Q (.panic c) a w := by exact fun _ _ _ h => h) (hw : Region.wanted oi (yielded ops a.tmps) = true := by rfl) : wpAnyH P md ops Q S (fuel + 1) listed a w :=
  takeH i d v hi hd hs hf hr hQ hw hy hS h
theorem tK {P : Program} {ops : Array Oper} {Q : Exit → Act → World → Prop} {md : Region.Mode} {S : World → Prop} (i : Nat) (d : Option Tmp) (v : Value) {oi : Oper} {fuel : Nat} {listed : Array Bool} {a : Act} {w : World} (hi : ops[i]? = some oi)
    (hS : S w) (h : wpAnyH P md ops Q S fuel (listed.setIfInBounds i true) (a.put d v) w) (hd : oi.dst = d := by rfl)
    (hs : Region.noSelect ops = true := by kernel_rfl) (hf : Region.free md ops listed i = true := by kernel_rfl) (hr : (Region.ready md ops listed).contains i = true := by kernel_rfl)
    (hQ : ∀ c a w, Q (.panic c) (a.put oi.dst v) w → Q (.panic c) a w := by exact fun _ _ _ h => h) (hw : Region.wanted oi (yielded ops a.tmps) = true := by rfl)
    (hy : ∀ w, S w → (execOp a.eval oi).run P w = .ok (.value v) w := by intro w hw; first | rfl | (go_simp; done) | (go_simp; rfl)) : wpAnyH P md ops Q S (fuel + 1) listed a w :=
  takeH i d v hi hd hs hf hr hQ hw hy hS h
theorem rdH {P : Program} {ops : Array Oper} {Q : Exit → Act → World → Prop} {md : Region.Mode} {S : World → Prop} (i : Nat) {o : Oper} {fuel : Nat} {listed : Array Bool} {a : Act} {w : World} (ho : ops[i]? = some o)
    (h : ∀ K' : Act → World → Prop, Shut (∀ a w, S w → (S w → wpAnyH P md ops Q S fuel (listed.setIfInBounds i true) a w) → K' a w) → Oper.wp P o a w K' Q)
    (hr : Region.ready md ops listed = [i] := by kernel_rfl) (hw : Region.wanted o (yielded ops a.tmps) = true := by rfl) : wpAnyH P md ops Q S (fuel + 1) listed a w :=
  wpAnyH_ready (rs := [i]) hr (by simp) (AllReadyH.cons ho (fun K hK => by rw [if_pos hw]; exact h K hK) AllReadyH.nil)
theorem wpRun {P : Program} {o : Oper} {a : Act} {w w' : World} {next : Act → World → Prop} {Q : Exit → Act → World → Prop} {v : Value} (h : (execOp a.eval o).run P w = .ok (.value v) w') (k : next (a.put o.dst v) w') : Oper.wp P o a w next Q := by
  unfold Oper.wp; rw [h]; exact k
theorem run_append_op {P : Program} {o : Oper} {f : Operand → Value} {w w' : World} {v : Value} (s x : Operand) (tys : Array TypeId) (ho : o.op = .call { callee := .builtin .append, args := #[s, x], argTypes := tys }) (h : (Builtin.append_ tys o.type #[f s, f x]).run P w = .ok v w') : (execOp f o).run P w = .ok (.value v) w' := by
  simp [execOp, ho, resolve, invoke, builtin, h, Result.andThen]
theorem run_copy_op {P : Program} {o : Oper} {f : Operand → Value} {w w' : World} {v : Value} (s x : Operand) (tys : Array TypeId) (ho : o.op = .call { callee := .builtin .copy, args := #[s, x], argTypes := tys }) (h : (Builtin.copy_ tys o.type #[f s, f x]).run P w = .ok v w') : (execOp f o).run P w = .ok (.value v) w' := by
  simp [execOp, ho, resolve, invoke, builtin, h, Result.andThen]
theorem wrap_id {x : Int} (h0 : -9223372036854775808 ≤ x) (h1 : x < 9223372036854775808) : IntKind.i64.wrap x = x := by
  rw [IntKind.wrap_i64]; omega
theorem DiskAt.drew {w : World} {p m : Nat} {con : Key → FC} {A : AD} (h : DiskAt w p m con A) : DiskAt w.drew p m con A := h.same (fun _ _ => rfl)
theorem below_drew {w w' : World} (h : Below w.drew.heap.size w.drew w') : Below w.heap.size w w' := ⟨h.os, h.tape, h.output, h.size, h.block⟩
theorem flen_some {A : AD} {k : Key} {F : AF} (h : fget A.fs k = some F) : A.flen k = (F.seen.length : Int) := by unfold AD.flen; rw [h]
theorem flen_none {A : AD} {k : Key} (h : fget A.fs k = none) : A.flen k = 0 := by unfold AD.flen; rw [h]
theorem fits_name {A : AD} {k : Key} {a n : Int} (h : nameOk k = false) : A.fits k a n = 1 := by unfold AD.fits; rw [if_pos (.inl h)]
theorem fits_at {A : AD} {k : Key} {a n : Int} (h : a < 0 ∨ a > A.flen k) : A.fits k a n = 1 := by unfold AD.fits; rw [if_pos (.inr h)]
theorem fits_rest {A : AD} {k : Key} {a n : Int} (h0 : nameOk k = true) (h1 : ¬ (a < 0 ∨ a > A.flen k)) : A.fits k a n = (if max (A.flen k) (a + n) > 1048576 then 3 else if (fget A.fs k).isNone = true ∧ 16 ≤ A.fs.length then 6 else if (fused A.fs : Int) - A.flen k + max (A.flen k) (a + n) > A.cap then 41 else 0) := by
  unfold AD.fits
  rw [if_neg]
  rintro (h | h)
  · rw [h0] at h; cases h
  · exact h1 h
set_option maxRecDepth 5000 in
set_option maxHeartbeats 1000000 in
theorem fits_none (p m : Nat) (con : Key → FC) (A : AD) (w : World) (h : DiskAt w p m con A) (s : ByteArray) (hs : s.size ≤ maxLen) (a n : Int) (ha : -9223372036854775808 ≤ a ∧ a < 9223372036854775808) (hn : 0 ≤ n ∧ n ≤ 140737488355328) (hk : fget A.fs s.data.toList = none) :
    Calls Tryz.prog 43 #[.pointer (some ⟨p, 0, none⟩), .string s, .int .i64 a, .int .i64 n] w fun e w' => e = .returned (.int .i64 (A.fits s.data.toList a n)) ∧ Below w.heap.size w w' := by
  have HH := hide h
  have c0 := h.c0
  have c1 := h.c1
  have hcap0 := h.ok.c0
  have hcap1 := h.ok.c1
  have hu1 := h.ok.space
  have hu0 : (0 : Int) ≤ (fused A.fs : Int) := by omega
  have hl := (look_none h s hs hk).1
  have hln : ∀ ty, (Builtin.len_ #[82] ty #[.map (some m)]).run Tryz.prog w = .ok (.int .i64 (A.fs.length : Int)) w := fun ty => by rw [h.files.len Tryz.underlying82 ty, fsD_size]
  have HLn := hide (flen_none hk)
  clear h
  go_enter Tryz.func43, Tryz.ntmps43
  go_wp2_with fail
  refine (isName_any s _).mono ?_
  rintro e w1 ⟨rfl, rfl⟩
  cases hN : nameOk s.data.toList with
  | false =>
    have HE := hide (fits_name (A := A) (a := a) (n := n) hN)
    clear hN
    go_wp2
    go_ret
    exact ⟨by rw [HE.out]; rfl, Below.refl _ _⟩
  | true =>
    by_cases ha0 : a < 0
    · have da : decide (a < 0) = true := decide_eq_true ha0
      have HE := hide (fits_at (A := A) (k := s.data.toList) (n := n) (.inl ha0))
      clear ha0 hk
      go_wp2
      go_ret
      exact ⟨by rw [HE.out]; rfl, Below.refl _ _⟩
    · have da : decide (a < 0) = false := decide_eq_false ha0
      by_cases ha1 : 0 < a
      · have db : decide (0 < a) = true := decide_eq_true ha1
        have HE := hide (fits_at (A := A) (k := s.data.toList) (n := n) (.inr (by rw [HLn.out]; exact ha1)))
        clear ha1 hk
        go_wp2
        go_ret
        exact ⟨by rw [HE.out]; rfl, Below.refl _ _⟩
      · have db : decide (0 < a) = false := decide_eq_false ha1
        obtain ⟨E, hE⟩ : ∃ E, (if 0 < a + n then a + n else 0) = E := ⟨_, rfl⟩
        have HEE : Hid (max 0 (a + n) = E) := by show _ = _; rw [← hE]; split <;> omega
        have hE0 : 0 ≤ E := by rw [← HEE.out]; omega
        have hE1 : E ≤ 281474976710656 := by rw [← HEE.out]; omega
        by_cases h3 : 1048576 < E
        · have dc : decide (1048576 < E) = true := decide_eq_true h3
          have HE : Hid (A.fits s.data.toList a n = 3) := by show _ = _; rw [fits_rest hN (by rw [HLn.out]; omega), HLn.out, HEE.out, if_pos h3]
          clear h3 hk
          go_wp2
          go_ret
          exact ⟨by rw [HE.out]; rfl, Below.refl _ _⟩
        · have dc : decide (1048576 < E) = false := decide_eq_false h3
          by_cases h6 : 16 ≤ A.fs.length
          · have dd : decide ((16 : Int) ≤ (A.fs.length : Int)) = true := decide_eq_true (by omega)
            have HE : Hid (A.fits s.data.toList a n = 6) := by show _ = _; rw [fits_rest hN (by rw [HLn.out]; omega), HLn.out, HEE.out, if_neg (by omega), if_pos ⟨by rw [hk]; rfl, h6⟩]
            clear h6 hk
            go_wp2
            go_ret
            exact ⟨by rw [HE.out]; rfl, Below.refl _ _⟩
          · have dd : decide ((16 : Int) ≤ (A.fs.length : Int)) = false := decide_eq_false (by omega)
            have HR : Hid (A.fits s.data.toList a n = if (fused A.fs : Int) - 0 + E > A.cap then 41 else 0) := by
              show _ = _
              rw [fits_rest hN (by rw [HLn.out]; omega), HLn.out, HEE.out, if_neg (by omega), if_neg (by rw [hk]; simp; omega)]
            have HK := hide hk
            clear hk
            go_wp2
            refine wp_region_noPanic ?_
            refine wp_region_held_drew (S := fun wx => wx.cell? ⟨p, 0, none⟩ = some (.int .i64 A.cap)) (by kernel_rfl) c0 (fun hHeld => ?_)
            refine tK 0 (some 57) (.pointer (some ⟨p, 0, none⟩)) rfl hHeld ?_
            simp only [Act.put, pA, pB, pC]
            refine tK 2 (some 59) (.int .i64 0) rfl hHeld ?_
            simp only [Act.put, pA, pB, pC]
            refine tK 4 (some 61) (.int .i64 E) rfl hHeld ?_
            simp only [Act.put, pA, pB, pC]
            refine tK 6 (some 63) (.pointer (some ⟨p, 0, none⟩)) rfl hHeld ?_
            simp only [Act.put, pA, pB, pC]
            refine tK 7 (some 64) (.pointer (some ⟨p, 0, none⟩)) rfl hHeld ?_
            simp only [Act.put, pA, pB, pC]
            refine tK 8 (some 65) (.pointer (some ⟨p, 0, none⟩)) rfl hHeld ?_
            simp only [Act.put, pA, pB, pC]
            refine tH 9 (some 66) (.int .i64 A.cap) rfl (fun w hw => by have hw' : w.cell? ⟨p, 0, none⟩ = some (.int .i64 A.cap) := hw; first | (go_simp; done) | (go_simp; rfl)) hHeld ?_
            simp only [Act.put, pA, pB, pC]
            refine rdH 1 rfl (fun K hK => ?_)
            go_simp
            refine (used_any p m con A w1.drew HH.out.drew).mono ?_
            rintro e w3 ⟨rfl, h3⟩
            try go_wp2_with fail
            refine hK.out _ _ (by rw [World.cell?_of_block (h3.block p (lt_of_some HH.out.cells))]; exact hHeld) (fun hHeld => ?_)
            clear hK K
            refine tH 3 (some 60) (.int .i64 ((fused A.fs : Int))) rfl (fun w hw => by first | rfl | (go_simp; done) | (go_simp; rfl) | (go_simp; rw [wrap_id (by omega) (by omega)])) hHeld ?_
            simp only [Act.put, pA, pB, pC]
            refine tH 5 (some 62) (.int .i64 ((fused A.fs : Int) + E)) rfl (fun w hw => by first | rfl | (go_simp; done) | (go_simp; rfl) | (go_simp; rw [wrap_id (by omega) (by omega)])) hHeld ?_
            simp only [Act.put, pA, pB, pC]
            obtain ⟨G, hG⟩ : ∃ G, decide (A.cap < (fused A.fs : Int) + E) = G := ⟨_, rfl⟩
            have HG := hide hG
            refine tH 10 (some 67) (.bool G) rfl (fun w hw => by first | (go_simp; done) | (go_simp; rfl)) hHeld ?_
            simp only [Act.put, pA, pB, pC]
            clear hG
            refine ⟨by kernel_rfl, ?_⟩
            refine NoPanic.normal ?_
            cases G with
            | true =>
              have h41 : (A.cap < (fused A.fs : Int) + E) := of_decide_eq_true HG.out
              have HE : Hid (A.fits s.data.toList a n = 41) := by show _ = _; rw [HR.out, if_pos (by omega)]
              clear h41
              go_wp2
              go_ret
              exact ⟨by rw [HE.out]; rfl, below_drew h3⟩
            | false =>
              have h41 : ¬ (A.cap < (fused A.fs : Int) + E) := of_decide_eq_false HG.out
              have HE : Hid (A.fits s.data.toList a n = 0) := by show _ = _; rw [HR.out, if_neg (by omega)]
              clear h41
              go_wp2
              go_ret
              exact ⟨by rw [HE.out]; rfl, below_drew h3⟩
set_option maxRecDepth 5000 in
set_option maxHeartbeats 1000000 in
theorem fits_some (p m : Nat) (con : Key → FC) (A : AD) (w : World) (h : DiskAt w p m con A) (s : ByteArray) (hs : s.size ≤ maxLen) (a n : Int) (ha : -9223372036854775808 ≤ a ∧ a < 9223372036854775808) (hn : 0 ≤ n ∧ n ≤ 140737488355328) {F : AF} (hk : fget A.fs s.data.toList = some F) :
    Calls Tryz.prog 43 #[.pointer (some ⟨p, 0, none⟩), .string s, .int .i64 a, .int .i64 n] w fun e w' => e = .returned (.int .i64 (A.fits s.data.toList a n)) ∧ Below w.heap.size w w' := by
  have HH := hide h
  have c0 := h.c0
  have c1 := h.c1
  have hcap0 := h.ok.c0
  have hcap1 := h.ok.c1
  have hu1 := h.ok.space
  have hu0 : (0 : Int) ≤ (fused A.fs : Int) := by omega
  have hl := (look_some h s hs hk).1
  have hf := h.file _ F hk
  have d0 := hf.c0
  obtain ⟨ad, cp, hv⟩ := hf.seen.shape
  rw [hv] at d0
  have hLm := hf.ok.most
  have HLn := hide (flen_some hk)
  clear hf hv
  clear h
  go_enter Tryz.func43, Tryz.ntmps43
  go_wp2_with fail
  refine (isName_any s _).mono ?_
  rintro e w1 ⟨rfl, rfl⟩
  cases hN : nameOk s.data.toList with
  | false =>
    have HE := hide (fits_name (A := A) (a := a) (n := n) hN)
    clear hN
    go_wp2
    go_ret
    exact ⟨by rw [HE.out]; rfl, Below.refl _ _⟩
  | true =>
    by_cases ha0 : a < 0
    · have da : decide (a < 0) = true := decide_eq_true ha0
      have HE := hide (fits_at (A := A) (k := s.data.toList) (n := n) (.inl ha0))
      clear ha0 hk
      go_wp2
      go_ret
      exact ⟨by rw [HE.out]; rfl, Below.refl _ _⟩
    · have da : decide (a < 0) = false := decide_eq_false ha0
      by_cases ha1 : (F.seen.length : Int) < a
      · have db : decide ((F.seen.length : Int) < a) = true := decide_eq_true ha1
        have HE := hide (fits_at (A := A) (k := s.data.toList) (n := n) (.inr (by rw [HLn.out]; exact ha1)))
        clear ha1 hk
        go_wp2
        go_ret
        exact ⟨by rw [HE.out]; rfl, Below.refl _ _⟩
      · have db : decide ((F.seen.length : Int) < a) = false := decide_eq_false ha1
        obtain ⟨E, hE⟩ : ∃ E, (if (F.seen.length : Int) < a + n then a + n else (F.seen.length : Int)) = E := ⟨_, rfl⟩
        have HEE : Hid (max (F.seen.length : Int) (a + n) = E) := by show _ = _; rw [← hE]; split <;> omega
        have hE0 : 0 ≤ E := by rw [← HEE.out]; omega
        have hE1 : E ≤ 281474976710656 := by rw [← HEE.out]; omega
        by_cases h3 : 1048576 < E
        · have dc : decide (1048576 < E) = true := decide_eq_true h3
          have HE : Hid (A.fits s.data.toList a n = 3) := by show _ = _; rw [fits_rest hN (by rw [HLn.out]; omega), HLn.out, HEE.out, if_pos h3]
          clear h3 hk
          go_wp2
          go_ret
          exact ⟨by rw [HE.out]; rfl, Below.refl _ _⟩
        · have dc : decide (1048576 < E) = false := decide_eq_false h3
          have HR : Hid (A.fits s.data.toList a n = if (fused A.fs : Int) - (F.seen.length : Int) + E > A.cap then 41 else 0) := by
            show _ = _
            rw [fits_rest hN (by rw [HLn.out]; omega), HLn.out, HEE.out, if_neg (by omega), if_neg (by rw [hk]; simp)]
          have HK := hide hk
          clear hk
          go_wp2
          refine wp_region_noPanic ?_
          refine wp_region_held_drew (S := fun wx => wx.cell? ⟨p, 0, none⟩ = some (.int .i64 A.cap)) (by kernel_rfl) c0 (fun hHeld => ?_)
          refine tK 0 (some 57) (.pointer (some ⟨p, 0, none⟩)) rfl hHeld ?_
          simp only [Act.put, pA, pB, pC]
          refine tK 2 (some 59) (.int .i64 (F.seen.length : Int)) rfl hHeld ?_
          simp only [Act.put, pA, pB, pC]
          refine tK 4 (some 61) (.int .i64 E) rfl hHeld ?_
          simp only [Act.put, pA, pB, pC]
          refine tK 6 (some 63) (.pointer (some ⟨p, 0, none⟩)) rfl hHeld ?_
          simp only [Act.put, pA, pB, pC]
          refine tK 7 (some 64) (.pointer (some ⟨p, 0, none⟩)) rfl hHeld ?_
          simp only [Act.put, pA, pB, pC]
          refine tK 8 (some 65) (.pointer (some ⟨p, 0, none⟩)) rfl hHeld ?_
          simp only [Act.put, pA, pB, pC]
          refine tH 9 (some 66) (.int .i64 A.cap) rfl (fun w hw => by have hw' : w.cell? ⟨p, 0, none⟩ = some (.int .i64 A.cap) := hw; first | (go_simp; done) | (go_simp; rfl)) hHeld ?_
          simp only [Act.put, pA, pB, pC]
          refine rdH 1 rfl (fun K hK => ?_)
          go_simp
          refine (used_any p m con A w1.drew HH.out.drew).mono ?_
          rintro e w3 ⟨rfl, h3⟩
          try go_wp2_with fail
          refine hK.out _ _ (by rw [World.cell?_of_block (h3.block p (lt_of_some HH.out.cells))]; exact hHeld) (fun hHeld => ?_)
          clear hK K
          refine tH 3 (some 60) (.int .i64 ((fused A.fs : Int) - (F.seen.length : Int))) rfl (fun w hw => by first | rfl | (go_simp; done) | (go_simp; rfl) | (go_simp; rw [wrap_id (by omega) (by omega)])) hHeld ?_
          simp only [Act.put, pA, pB, pC]
          refine tH 5 (some 62) (.int .i64 ((fused A.fs : Int) - (F.seen.length : Int) + E)) rfl (fun w hw => by first | rfl | (go_simp; done) | (go_simp; rfl) | (go_simp; rw [wrap_id (by omega) (by omega)])) hHeld ?_
          simp only [Act.put, pA, pB, pC]
          obtain ⟨G, hG⟩ : ∃ G, decide (A.cap < (fused A.fs : Int) - (F.seen.length : Int) + E) = G := ⟨_, rfl⟩
          have HG := hide hG
          refine tH 10 (some 67) (.bool G) rfl (fun w hw => by first | (go_simp; done) | (go_simp; rfl)) hHeld ?_
          simp only [Act.put, pA, pB, pC]
          clear hG
          refine ⟨by kernel_rfl, ?_⟩
          refine NoPanic.normal ?_
          cases G with
          | true =>
            have h41 : (A.cap < (fused A.fs : Int) - (F.seen.length : Int) + E) := of_decide_eq_true HG.out
            have HE : Hid (A.fits s.data.toList a n = 41) := by show _ = _; rw [HR.out, if_pos (by omega)]
            clear h41
            go_wp2
            go_ret
            exact ⟨by rw [HE.out]; rfl, below_drew h3⟩
          | false =>
            have h41 : ¬ (A.cap < (fused A.fs : Int) - (F.seen.length : Int) + E) := of_decide_eq_false HG.out
            have HE : Hid (A.fits s.data.toList a n = 0) := by show _ = _; rw [HR.out, if_neg (by omega)]
            clear h41
            go_wp2
            go_ret
            exact ⟨by rw [HE.out]; rfl, below_drew h3⟩
theorem fits_any (p m : Nat) (con : Key → FC) (A : AD) (w : World) (h : DiskAt w p m con A) (s : ByteArray) (hs : s.size ≤ maxLen) (a n : Int) (ha : -9223372036854775808 ≤ a ∧ a < 9223372036854775808) (hn : 0 ≤ n ∧ n ≤ 140737488355328) :
    Calls Tryz.prog 43 #[.pointer (some ⟨p, 0, none⟩), .string s, .int .i64 a, .int .i64 n] w fun e w' => e = .returned (.int .i64 (A.fits s.data.toList a n)) ∧ Below w.heap.size w w' := by
  cases hk : fget A.fs s.data.toList with
  | none => exact fits_none p m con A w h s hs a n ha hn hk
  | some F => exact fits_some p m con A w h s hs a n ha hn hk
end Go.Proofs.YtlkimfmilccanaaGreat
