/-
  The document's disk: Off, Arm, Fall, refused, find, Name, in, Used, Size.
-/
import Derived.Test.YtcmhfpiglacdaaaGreatRefState
namespace Go.Proofs.YtcmhfpiglacdaaaGreat
open Go.RowKit Go.Maps Go.WideMaps
set_option linter.unusedVariables false
set_option linter.unusedSimpArgs false
section
variable {w : World} {r : Nat} {s : RS} {xs : List RF} {S : Nat → Prop} {A : AD}
theorem rOff_any (h : RefAt w r s xs S) : Calls Tryz.prog 24 #[.pointer (some ⟨r, 0, none⟩)] w fun e w' => e = .returned (.bool s.off) ∧ w' = w := by
  have c5 : w.cell? ⟨r, 5, none⟩ = some (.bool s.off) := h.c 5
  clear h
  go_enter Tryz.func24, Tryz.ntmps24
  go_wp2
  go_ret
  exact ⟨rfl, rfl⟩
theorem rFall_any (h : RefAt w r s xs S) (hr : RRel s xs A) (n : Int) : Calls Tryz.prog 38 #[.pointer (some ⟨r, 0, none⟩), .int .i64 n] w fun e w' => e = .returned (.tuple #[]) ∧ ∃ s', RefAt w' r s' xs S ∧ RRel s' xs (A.fallen n) ∧ Turn (fun b => b = r) w w' := by
  have HH := hide h
  have HR := hide hr
  have f4 := h.fz 4
  have c4 : w.cell? ⟨r, 4, none⟩ = some (.int .i64 s.fall) := h.c 4
  obtain ⟨m, hm⟩ : ∃ m, max 0 n = m := ⟨_, rfl⟩
  have hm2 : max n 0 = m := by omega
  have HM := hide hm2
  clear h hr hm2
  go_enter Tryz.func38, Tryz.ntmps38
  go_wp2
  go_end0
  obtain ⟨h1, t1⟩ := HH.out.field 4 (.int .i64 m) { s with fall := m } rfl rfl
  exact ⟨rfl, _, h1, ⟨HR.out.n, HR.out.cap, ⟨HR.out.pow.arm, by show m = max n 0; rw [HM.out], HR.out.pow.off, HR.out.pow.opn, HR.out.pow.what⟩, HR.out.fs, HR.out.ds⟩, t1⟩
set_option maxRecDepth 5000 in
theorem rArm_any (h : RefAt w r s xs S) (hr : RRel s xs A) (n x : Int) : Calls Tryz.prog 36 #[.pointer (some ⟨r, 0, none⟩), .int .i64 n, .int .i64 x] w fun e w' => e = .returned (.tuple #[]) ∧ ∃ s', RefAt w' r s' xs S ∧ RRel s' xs (A.armed n x) ∧ Turn (fun b => b = r) w w' := by
  obtain ⟨h1, t1⟩ := h.field 2 (.int .i64 0) { s with arm := 0 } rfl rfl
  have HR := hide hr
  have f2 := h.fz 2
  have f3 := h.fz 3
  have c2 : w.cell? ⟨r, 2, none⟩ = some (.int .i64 s.arm) := h.c 2
  have c3 : w.cell? ⟨r, 3, none⟩ = some (.int .i64 s.what) := h.c 3
  by_cases hb : n < 1 ∨ x < 0 ∨ x > 2
  · have he : A.armed n x = { A with pow := { A.pow with arm := 0, what := 0 } } := by unfold AD.armed; rw [if_pos hb]
    rw [he]
    have H1 := hide h1
    have T1 := hide t1
    have HE : Hid (∃ s', RefAt (w.setCell ⟨r, 2, none⟩ (.int .i64 0)) r s' xs S ∧ RRel s' xs { A with pow := { A.pow with arm := 0, what := 0 } } ∧ Turn (fun b => b = r) w (w.setCell ⟨r, 2, none⟩ (.int .i64 0))) :=
      ⟨_, h1, ⟨HR.out.n, HR.out.cap, ⟨rfl, HR.out.pow.fall, HR.out.pow.off, HR.out.pow.opn, fun hx => absurd hx (by show ¬ (0 : Int) < 0; omega)⟩, HR.out.fs, HR.out.ds⟩, t1⟩
    clear h hr he h1 t1
    by_cases hn : n < 1
    · have dn : ¬ (1 : Int) ≤ n := by omega
      have dn2 : decide ((1 : Int) ≤ n) = false := decide_eq_false dn
      clear hb hn
      go_enter Tryz.func36, Tryz.ntmps36
      go_wp2
      go_end0
      exact ⟨rfl, HE.out⟩
    · have dn : (1 : Int) ≤ n := by omega
      have dn2 : decide ((1 : Int) ≤ n) = true := decide_eq_true dn
      have d0 : (x == 0) = false := beq_eq_false_iff_ne.2 (by omega)
      have d1 : (x == 1) = false := beq_eq_false_iff_ne.2 (by omega)
      have d2 : (x == 2) = false := beq_eq_false_iff_ne.2 (by omega)
      clear hb hn
      go_enter Tryz.func36, Tryz.ntmps36
      go_wp2
      go_end0
      exact ⟨rfl, HE.out⟩
  · have he : A.armed n x = { A with pow := { A.pow with arm := n, what := x } } := by unfold AD.armed; rw [if_neg hb]
    rw [he]
    obtain ⟨h2, t2⟩ := h1.field 2 (.int .i64 n) { s with arm := n } rfl rfl
    obtain ⟨h3, t3⟩ := h2.field 3 (.int .i64 x) { s with arm := n, what := x } rfl rfl
    have HE : Hid (∃ s', RefAt (((w.setCell ⟨r, 2, none⟩ (.int .i64 0)).setCell ⟨r, 2, none⟩ (.int .i64 n)).setCell ⟨r, 3, none⟩ (.int .i64 x)) r s' xs S ∧ RRel s' xs { A with pow := { A.pow with arm := n, what := x } } ∧ Turn (fun b => b = r) w (((w.setCell ⟨r, 2, none⟩ (.int .i64 0)).setCell ⟨r, 2, none⟩ (.int .i64 n)).setCell ⟨r, 3, none⟩ (.int .i64 x))) :=
      ⟨_, h3, ⟨HR.out.n, HR.out.cap, ⟨rfl, HR.out.pow.fall, HR.out.pow.off, HR.out.pow.opn, fun _ => rfl⟩, HR.out.fs, HR.out.ds⟩, (t1.trans t2 (fun _ hb => .inl hb)).trans t3 (fun _ hb => .inl hb)⟩
    have dn : (1 : Int) ≤ n := by omega
    have dn2 : decide ((1 : Int) ≤ n) = true := decide_eq_true dn
    have hx : x = 0 ∨ x = 1 ∨ x = 2 := by omega
    clear h hr he h1 t1 h2 t2 h3 t3 hb
    have fin : ∀ e w', e = Ending.returned (.tuple #[]) → w' = (((w.setCell ⟨r, 2, none⟩ (.int .i64 0)).setCell ⟨r, 2, none⟩ (.int .i64 n)).setCell ⟨r, 3, none⟩ (.int .i64 x)) → e = Ending.returned (.tuple #[]) ∧ ∃ s', RefAt w' r s' xs S ∧ RRel s' xs { A with pow := { A.pow with arm := n, what := x } } ∧ Turn (fun b => b = r) w w' := fun e w' h1 h2 => ⟨h1, by rw [h2]; exact HE.out⟩
    have FIN := hide fin
    clear fin
    rcases hx with rfl | rfl | rfl
    all_goals
      go_enter Tryz.func36, Tryz.ntmps36
      go_wp2
      go_end0
      first | exact ⟨rfl, HE.out⟩ | exact FIN.out _ _ rfl rfl | exact FIN.out _ _ rfl (by simp)
def findI (xs : List RF) (k : Key) : Int := match xs.findIdx? (fun x => x.name.data.toList == k) with
  | some i => (i : Int)
  | none => -1
theorem findI_at {xs : List RF} {k : Key} {i : Nat} (hi : i < xs.length) (hn : ∀ j (h : j < xs.length), j < i → (xs[j].name.data.toList == k) = false) (he : (xs[i].name.data.toList == k) = true) : findI xs k = (i : Int) := by
  have : xs.findIdx? (fun x => x.name.data.toList == k) = some i := by
    rw [List.findIdx?_eq_some_iff_getElem]
    exact ⟨hi, he, fun j hj => by rw [hn j (by omega) hj]; simp⟩
  unfold findI
  rw [this]
theorem findI_none {xs : List RF} {k : Key} (hn : ∀ j (h : j < xs.length), (xs[j].name.data.toList == k) = false) : findI xs k = -1 := by
  have : xs.findIdx? (fun x => x.name.data.toList == k) = none := by
    rw [List.findIdx?_eq_none_iff]
    intro x hx
    obtain ⟨j, hj, rfl⟩ := List.getElem_of_mem hx
    exact hn j hj
  unfold findI
  rw [this]
theorem find_some : ∀ {xs : List RF} {k : Key} {F : AF}, fget (xs.map RF.abs) k = some F → ∃ i, ∃ h : i < xs.length, findI xs k = (i : Int) ∧ xs[i].abs = (k, F)
  | [], k, F, h => by simp [fget] at h
  | x :: r, k, F, h => by
    rw [List.map_cons, fget_cons] at h
    by_cases e : x.abs.1 = k
    · rw [if_pos e] at h
      refine ⟨0, by simp, findI_at (by simp) (fun j _ hj => by omega) (by show (x.name.data.toList == k) = true; rw [show x.name.data.toList = k from e]; simp), ?_⟩
      show x.abs = (k, F)
      cases h
      rw [← e]
    · rw [if_neg e] at h
      obtain ⟨i, hi, h1, h2⟩ := find_some h
      refine ⟨i + 1, by simp; omega, ?_, by simpa using h2⟩
      unfold findI at h1 ⊢
      rw [List.findIdx?_cons]
      have : (x.name.data.toList == k) = false := by rw [beq_eq_false_iff_ne]; exact e
      simp only [this, Bool.false_eq_true, if_false]
      cases hq : r.findIdx? (fun x => x.name.data.toList == k) with
      | none => rw [hq] at h1; simp at h1
      | some j => rw [hq] at h1; simp at h1 ⊢; omega
theorem find_none {xs : List RF} {k : Key} (h : fget (xs.map RF.abs) k = none) : findI xs k = -1 := by
  rw [fget_none_iff] at h
  refine findI_none (fun j hj => ?_)
  rw [beq_eq_false_iff_ne]
  exact h _ (List.mem_map.2 ⟨xs[j], List.getElem_mem hj, rfl⟩)
set_option maxRecDepth 5000 in
theorem rFind_any (h : RefAt w r s xs S) (hn : s.n = xs.length) (hl : xs.length ≤ 100) (t : ByteArray) : Calls Tryz.prog 56 #[.pointer (some ⟨r, 0, none⟩), .string t] w fun e w' => e = .returned (.int .i64 (findI xs t.data.toList)) ∧ w' = w := by
  have c1 : w.cell? ⟨r, 1, none⟩ = some (.slice s.ad xs.length s.c) := by rw [← hn]; exact h.c 1
  obtain ⟨ad, had⟩ : ∃ ad, s.ad = ad := ⟨_, rfl⟩
  have HF := hide h.files
  rw [had] at c1 HF
  clear h hn had
  go_enter Tryz.func56, Tryz.ntmps56
  go_wp2
  go_loopw [5] (fun i wr => ∃ k : Nat, k ≤ xs.length ∧ i = .int .i64 (k : Int) ∧ (∀ j (h : j < xs.length), j < k → (xs[j].name.data.toList == t.data.toList) = false) ∧ wr = w) (fun i _ => xs.length - (intOf i).toNat)
  case atStart => exact ⟨0, by omega, rfl, fun j _ hj => by omega, rfl⟩
  case round =>
    obtain ⟨k, hk, rfl, hno, rfl⟩ := hrel
    have HN := hide hno
    clear hno
    by_cases hlt : k < xs.length
    · have dk : decide ((k : Int) < (xs.length : Int)) = true := decide_eq_true (by omega)
      have hk0 : (0 : Int) ≤ (k : Int) := by omega
      have hk1 : (k : Int) < (xs.length : Int) := by omega
      obtain ⟨b, o, rfl, hbl, hcs⟩ := HF.out.cells hlt
      obtain ⟨x, hx⟩ : ∃ x, xs[k] = x := ⟨_, rfl⟩
      rw [hx] at hcs
      have f0 : wr.cell? ⟨b, o + k * 4, none⟩ = some (.string x.name) := hcs 0 (by omega)
      cases hq : (x.name.data.toList == t.data.toList) with
      | true =>
        have hb1 : (x.name.toList == t.toList) = true := by rw [toList_beq]; exact hq
        have HC := hide (findI_at hlt HN.out (by rw [hx]; exact hq))
        clear hcs hx hq
        go_wp2
        go_ret
        exact ⟨by rw [HC.out]; rfl, rfl⟩
      | false =>
        have hb1 : (x.name.toList == t.toList) = false := by rw [toList_beq]; exact hq
        have HC : Hid (∀ j (h : j < xs.length), j < k + 1 → (xs[j].name.data.toList == t.data.toList) = false) := fun j hj hjk => by
          by_cases e : j = k
          · subst e; rw [hx]; exact hq
          · exact HN.out j hj (by omega)
        clear hcs hx hq
        go_wp2
        go_roundw
        case rel => exact ⟨k + 1, by omega, by go_num, HC.out, by first | rfl | trivial⟩
        case measure => simp [intOf]; omega
    · have hkl : k = xs.length := by omega
      subst hkl
      have dk : decide ((xs.length : Int) < (xs.length : Int)) = false := decide_eq_false (by omega)
      have HC := hide (findI_none (k := t.data.toList) (fun j hj => HN.out j hj hj))
      go_wp2
      go_ret
      exact ⟨by rw [HC.out]; rfl, rfl⟩
theorem fused_take (xs : List RF) (k : Nat) (h : k < xs.length) : fused ((xs.take (k + 1)).map RF.abs) = fused ((xs.take k).map RF.abs) + xs[k].seen.size := by
  rw [take_snoc xs k h, List.map_append]
  unfold fused
  rw [List.map_append, List.sum_append]
  have e : (List.map (fun p : Key × AF => p.2.seen.length) (List.map RF.abs [xs[k]])).sum = xs[k].seen.size := by
    show xs[k].seen.data.toList.length + 0 = _
    rw [str_len]
    rfl
  rw [e]
theorem fused_take_le (xs : List RF) (k : Nat) : fused ((xs.take k).map RF.abs) ≤ fused (xs.map RF.abs) := by
  conv => rhs; rw [← List.take_append_drop k xs]
  rw [List.map_append]
  unfold fused
  rw [List.map_append, List.sum_append]
  omega
set_option maxRecDepth 5000 in
theorem rUsed_any (h : RefAt w r s xs S) (hr : RRel s xs A) (hok : A.Ok) : Calls Tryz.prog 25 #[.pointer (some ⟨r, 0, none⟩)] w fun e w' => e = .returned (.int .i64 (fused A.fs : Int)) ∧ w' = w := by
  have c1 : w.cell? ⟨r, 1, none⟩ = some (.slice s.ad xs.length s.c) := by rw [← hr.n]; exact h.c 1
  obtain ⟨ad, had⟩ : ∃ ad, s.ad = ad := ⟨_, rfl⟩
  have HF := hide h.files
  have hl : xs.length ≤ 16 := by have := hok.few; rw [hr.fs, List.length_map] at this; exact this
  have HT : Hid (fused (xs.map RF.abs) ≤ 16777216) := by
    have h1 := hok.space
    have h2 := hok.c1
    rw [hr.fs] at h1
    show _ ≤ _
    omega
  rw [had] at c1 HF
  rw [hr.fs]
  clear h hr had hok
  go_enter Tryz.func25, Tryz.ntmps25
  go_wp2
  go_loopw [3, 4] (fun y i wr => ∃ k : Nat, k ≤ xs.length ∧ i = .int .i64 (k : Int) ∧ y = .int .i64 (fused ((xs.take k).map RF.abs) : Int) ∧ wr = w) (fun _ i _ => xs.length - (intOf i).toNat)
  case atStart => exact ⟨0, by omega, rfl, rfl, rfl⟩
  case round =>
    obtain ⟨k, hk, rfl, rfl, rfl⟩ := hrel
    by_cases hlt : k < xs.length
    · have dk : decide ((k : Int) < (xs.length : Int)) = true := decide_eq_true (by omega)
      have hk0 : (0 : Int) ≤ (k : Int) := by omega
      have hk1 : (k : Int) < (xs.length : Int) := by omega
      obtain ⟨b, o, rfl, hbl, hcs⟩ := HF.out.cells hlt
      have hsum := fused_take xs k hlt
      have hle := Nat.le_trans (fused_take_le xs (k + 1)) HT.out
      obtain ⟨x, hx⟩ : ∃ x, xs[k] = x := ⟨_, rfl⟩
      rw [hx] at hcs hsum
      have f1 : wr.cell? ⟨b, o + k * 4 + 1, none⟩ = some (.string x.seen) := hcs 1 (by omega)
      obtain ⟨a, ha⟩ : ∃ a, fused ((xs.take k).map RF.abs) = a := ⟨_, rfl⟩
      obtain ⟨c, hc⟩ : ∃ c, x.seen.size = c := ⟨_, rfl⟩
      rw [hsum, ha, hc] at hle
      rw [ha, hc] at hsum
      have HS := hide hsum
      rw [ha]
      clear hcs hx hsum ha
      go_wp2
      go_roundw
      case rel => exact ⟨k + 1, by omega, by go_num, by rw [HS.out]; go_num, by first | rfl | trivial⟩
      case measure => simp [intOf]; omega
    · have hkl : k = xs.length := by omega
      subst hkl
      have dk : decide ((xs.length : Int) < (xs.length : Int)) = false := decide_eq_false (by omega)
      rw [List.take_length]
      go_wp2
      go_ret
      exact ⟨rfl, rfl⟩
set_option maxRecDepth 5000 in
theorem rSize_any (h : RefAt w r s xs S) (hr : RRel s xs A) (hok : A.Ok) (t : ByteArray) : Calls Tryz.prog 53 #[.pointer (some ⟨r, 0, none⟩), .string t] w fun e w' => e = .returned (.tuple #[.int .i64 (A.size t.data.toList).1, .int .i64 (A.size t.data.toList).2]) ∧ w' = w := by
  have c1 : w.cell? ⟨r, 1, none⟩ = some (.slice s.ad xs.length s.c) := by rw [← hr.n]; exact h.c 1
  have c5 : w.cell? ⟨r, 5, none⟩ = some (.bool A.pow.off) := by rw [← hr.pow.off]; exact h.c 5
  have hl : xs.length ≤ 16 := by have := hok.few; rw [hr.fs, List.length_map] at this; exact this
  have hfind := rFind_any h hr.n (by omega) t
  obtain ⟨ad, had⟩ : ∃ ad, s.ad = ad := ⟨_, rfl⟩
  have HF := hide h.files
  rw [had] at c1 HF
  have HFS := hide hr.fs
  clear h hr had hok
  unfold AD.size
  cases hoff : A.pow.off with
  | true =>
    rw [hoff] at c5
    rw [if_pos rfl]
    clear hfind hoff
    go_enter Tryz.func53, Tryz.ntmps53
    go_wp2
    go_ret2
    exact ⟨rfl, rfl⟩
  | false =>
    rw [hoff] at c5
    rw [if_neg (by simp)]
    cases hg : fget A.fs t.data.toList with
    | none =>
      rw [HFS.out] at hg
      rw [find_none hg] at hfind
      clear hg hoff
      go_enter Tryz.func53, Tryz.ntmps53
      go_wp2_with fail
      refine hfind.mono ?_
      rintro e w1 ⟨rfl, rfl⟩
      clear hfind
      go_wp2
      go_ret2
      exact ⟨rfl, rfl⟩
    | some F =>
      rw [HFS.out] at hg
      obtain ⟨i, hi, hfi, hab⟩ := find_some hg
      rw [hfi] at hfind
      obtain ⟨b, o, rfl, hbl, hcs⟩ := HF.out.cells hi
      obtain ⟨x, hx⟩ : ∃ x, xs[i] = x := ⟨_, rfl⟩
      rw [hx] at hcs hab
      have f1 : w.cell? ⟨b, o + i * 4 + 1, none⟩ = some (.string x.seen) := hcs 1 (by omega)
      have HL : Hid (F.seen.length = x.seen.size) := by show _ = _; rw [← str_len]; exact congrArg (fun p => List.length (AF.seen p.2)) hab.symm
      have hk0 : (0 : Int) ≤ (i : Int) := by omega
      have hk1 : (i : Int) < (xs.length : Int) := by omega
      have dk : decide ((i : Int) < 0) = false := decide_eq_false (by omega)
      clear hg hoff hcs hab hx hfi
      go_enter Tryz.func53, Tryz.ntmps53
      go_wp2_with fail
      refine hfind.mono ?_
      rintro e w1 ⟨rfl, rfl⟩
      clear hfind
      go_wp2
      go_ret2
      exact ⟨by rw [HL.out]; rfl, rfl⟩
end
end Go.Proofs.YtcmhfpiglacdaaaGreat
