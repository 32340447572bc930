import Derived.Test.YtjfbdnogkbhciaaGreatDoorWAgainN
import Derived.Test.YtjfbdnogkbhciaaGreatDoorWAgainR
/-
  bytes: has one of these files bytes? A cell of a list that is the caller's own is written.
-/
namespace Go.Proofs.YtjfbdnogkbhciaaGreatDoor
open Go.RowKit Go.Maps
set_option linter.unusedVariables false
set_option linter.unusedSimpArgs false
section
variable {B : Nat} {w : World} {L : List Item} {i q p : Nat} {A : AD}
theorem Lies.setSub {v : Value} {ks : List Key} (h : Lies B w L) (hq : L[q]? = some (.sub v ks)) (k : Nat) (hk : k < ks.length) (x : ByteArray) : ∃ b o cap, v = .slice (some ⟨b, o, none⟩) ks.length cap ∧ w.cell? ⟨b, o + k, none⟩ = some (.string ⟨(ks[k]).toArray⟩) ∧ w.frozen? ⟨b, o + k, none⟩ = false ∧ Lies B (w.setCell ⟨b, o + k, none⟩ (.string x)) (L.set q (.sub v (ks.set k x.data.toList))) ∧ Below B w (w.setCell ⟨b, o + k, none⟩ (.string x)) := by
  obtain ⟨S, ⟨ad, cap, hv, hr, hl, hfz, hS⟩, hB, _, hu⟩ := h.upd hq
  have hne : ks ≠ [] := fun e => by rw [e] at hk; simp at hk
  rcases hr with h1 | ⟨b, o, h1, hbl, hc⟩
  · exact absurd (List.map_eq_nil_iff.1 h1) hne
  subst h1
  have hfz0 := hfz b o hne rfl
  have hck : w.cell? ⟨b, o + k, none⟩ = some (.string ⟨(ks[k]).toArray⟩) := by rw [hc k (by simpa using hk), List.getElem?_map, List.getElem?_eq_getElem hk]; rfl
  have hSb : S b := (hS b).2 ⟨hne, o, rfl⟩
  have hh : ∀ x', x' ≠ b → (w.setCell ⟨b, o + k, none⟩ (.string x)).heap[x']? = w.heap[x']? := fun x' hx => Below.heap_setCell w ⟨b, o + k, none⟩ (.string x) x' hx
  have hsz : (w.setCell ⟨b, o + k, none⟩ (.string x)).heap.size = w.heap.size := by simp [World.setCell]
  have hcells : ∀ j, j < ((ks.set k x.data.toList).map encStr).length → (w.setCell ⟨b, o + k, none⟩ (.string x)).cell? ⟨b, o + j, none⟩ = ((ks.set k x.data.toList).map encStr)[j]? := fun j hj => by
    rw [List.length_map, List.length_set] at hj
    by_cases e : j = k
    · subst e
      rw [World.cell?_setCell_same' _ _ _ (by rw [hck]; rfl), List.getElem?_map, List.getElem?_set_self hk]
      rfl
    · rw [World.cell?_setCell_other _ _ _ _ (fun e2 => e (by have := congrArg Addr.off e2; simp at this; omega)), hc j (by simpa using hj), List.getElem?_map, List.getElem?_map, List.getElem?_set_ne (fun e2 => e e2.symm)]
  have hS' : ∀ b', S b' ↔ (ks.set k x.data.toList) ≠ [] ∧ ∃ o', (some ⟨b, o, none⟩ : Option Addr) = some ⟨b', o', none⟩ := fun b' => by
    rw [hS b']
    constructor
    · rintro ⟨_, o', e⟩; exact ⟨fun hc => hne (by simpa using hc), o', e⟩
    · rintro ⟨_, o', e⟩; exact ⟨hne, o', e⟩
  have hP : (Item.sub v (ks.set k x.data.toList)).P (w.setCell ⟨b, o + k, none⟩ (.string x)) S := ⟨some ⟨b, o, none⟩, cap, by rw [List.length_set]; exact hv, .inr ⟨b, o, rfl, by rw [hsz]; exact hbl, hcells⟩, by rw [List.length_set]; exact hl, fun b' o' h1' h2' q' => by cases h2'; rw [World.frozen?_setCell]; exact hfz0 q', hS'⟩
  obtain ⟨h2, h3⟩ := hu _ _ S hP ⟨⟨rfl, rfl, rfl, by rw [hsz]; exact Nat.le_refl _, fun x' hx hn => hh x' (fun e => hn (by rw [e]; exact hSb))⟩, fun b' hb' => .inl hb'⟩
  exact ⟨b, o, cap, hv, hck, hfz0 _, h2, h3⟩
def bytesA (A : AD) (ks : List Key) : Bool := ks.any fun k => decide (0 < (A.size k).1)
set_option maxRecDepth 100000 in
set_option maxHeartbeats 2000000 in
theorem bytes_any (h : Lies B w L) (hi : L[i]? = some (.disk p A)) (ad : Option Addr) (cap : Nat) (ks : List Key) (hr : RowAt w ad (ks.map encStr)) (hl : ks.length ≤ 1000000000) (hks : ∀ k ∈ ks, k.length ≤ 1000) :
    Calls Tryz.prog 16 #[.pointer (some ⟨p, 0, none⟩), .slice ad ks.length cap] w fun e w' => e = .returned (.bool (bytesA A ks)) ∧ w' = w := by
  obtain ⟨n, hn⟩ : ∃ n, ks.length = n := ⟨_, rfl⟩
  rw [hn] at hl ⊢
  have HSZ : Hid (∀ k (hk : k < n), Calls Tryz.prog 41 #[.pointer (some ⟨p, 0, none⟩), .string ⟨((ks[k]'(by omega)).toArray)⟩] w fun e w' => e = .returned (.tuple #[.int .i64 (A.size (ks[k]'(by omega))).1, .int .i64 (A.size (ks[k]'(by omega))).2]) ∧ w' = w) := fun k hk => by
    have := hks _ (List.getElem_mem (show k < ks.length by omega))
    exact s_size h hi ⟨(ks[k]'(by omega)).toArray⟩ (by show (ks[k]'(by omega)).toArray.size ≤ _; rw [List.size_toArray]; unfold maxLen; omega)
  have HCELL : Hid (∀ k (hk : k < n), ∃ b o, ad = some ⟨b, o, none⟩ ∧ w.cell? ⟨b, o + k, none⟩ = some (.string ⟨((ks[k]'(by omega)).toArray)⟩)) := fun k hk => by
    rcases hr with h1 | ⟨b, o, h1, hbl, hc⟩
    · rw [List.map_eq_nil_iff.1 h1] at hn; simp at hn; omega
    · refine ⟨b, o, h1, ?_⟩
      rw [hc k (by simpa using (show k < ks.length by omega)), List.getElem?_map, List.getElem?_eq_getElem (show k < ks.length by omega)]; rfl
  have HN := hide hn
  clear h hi hr hks
  go_enter Tryz.func16, Tryz.ntmps16
  go_wp2
  go_loopw [5] (fun x wr => ∃ k : Nat, k ≤ n ∧ x = .int .i64 (k : Int) ∧ (ks.take k).any (fun k => decide (0 < (A.size k).1)) = false ∧ wr = w) (fun x _ => n - (intOf x).toNat)
  case atStart => exact ⟨0, by omega, rfl, by simp, rfl⟩
  case round =>
    obtain ⟨k, hk, rfl, hno, rfl⟩ := hrel
    by_cases hlt : k < n
    · have dk : decide ((k : Int) < (n : Int)) = true := decide_eq_true (by omega)
      have hk0 : (0 : Int) ≤ (k : Int) := by omega
      have hk1 : (k : Int) < (n : Int) := by omega
      obtain ⟨b, o, rfl, hcell⟩ := HCELL.out k hlt
      have hsz := HSZ.out k hlt
      have hkl : k < ks.length := by have := HN.out; omega
      obtain ⟨f, hf⟩ : ∃ f, ks[k]'hkl = f := ⟨_, rfl⟩
      rw [hf] at hcell hsz
      have HS := hide hsz
      have HNO := hide hno
      have HF := hide hf
      obtain ⟨z, hz⟩ : ∃ z, (A.size f).1 = z := ⟨_, rfl⟩
      obtain ⟨ze, hze⟩ : ∃ z, (A.size f).2 = z := ⟨_, rfl⟩
      rw [hz, hze] at HS
      have HZ := hide hz
      have HTK : Hid ((ks.take (k + 1)).any (fun k => decide (0 < (A.size k).1)) = decide (0 < z)) := by
        show _ = _
        rw [List.take_succ_eq_append_getElem hkl, List.any_append, hno, hf]
        simp [hz]
      clear hsz hno hf hz hze
      go_wp2_with fail
      refine (HS.out).mono ?_
      rintro e w2 ⟨rfl, rfl⟩
      by_cases hpos : 0 < z
      · have k1 : decide (0 < z) = true := decide_eq_true hpos
        have HB : Hid (bytesA A ks = true) := by
          show _ = _
          unfold bytesA
          rw [List.any_eq_true]
          exact ⟨ks[k]'hkl, List.getElem_mem hkl, by rw [HF.out, HZ.out]; exact k1⟩
        go_wp2
        go_ret
        exact ⟨by rw [HB.out]; rfl, rfl⟩
      · have k1 : decide (0 < z) = false := decide_eq_false hpos
        rw [k1] at HTK
        go_wp2
        go_roundw
        case rel => exact ⟨k + 1, by omega, by go_num, HTK.out, by first | rfl | trivial⟩
        case measure => simp [intOf]; omega
    · have hkn : k = n := by omega
      subst hkn
      have dk : decide ((k : Int) < (k : Int)) = false := decide_eq_false (by omega)
      have HB : Hid (bytesA A ks = false) := by
        show _ = _
        unfold bytesA
        have h1 := hno
        rw [← HN.out, List.take_length] at h1
        exact h1
      clear hno
      go_wp2
      go_ret
      exact ⟨by rw [HB.out]; rfl, rfl⟩
end
end Go.Proofs.YtjfbdnogkbhciaaGreatDoor
/-
  first(), PLAIN: what the document gives, reckoned.
-/
namespace Go.Proofs.YtjfbdnogkbhciaaGreatDoor
open Go.RowKit Go.Maps
set_option linter.unusedVariables false
/-- load, with the segments' numbers given. -/
def loadN (ns : List Int) (A : AD) (g : AL) (first : Int) : List Key × Int × AD × AL :=
  if consec ns = false then ([], 60, A, { g with segs := ns.map seg0 })
  else
    let R := rdFin A g.name.data.toList ⟨[], 0, ns.map seg0, false⟩ ns.length 0
    if R.2.torn = true ∧ R.1 < ns.length then ([], 60, A, { g with segs := R.2.segs, next := R.2.next })
    else
      let nx := if R.2.pay = [] then first else R.2.next
      let g3 : AL := { g with segs := R.2.segs, next := nx }
      if first < nx - R.2.pay.length ∨ nx < first then ([], 60, A, g3)
      else
        let T := if R.2.torn = true then A.trunc (fileL g.name.data.toList (R.2.segs.getLastD ⟨0, 0, 0⟩).num) (R.2.segs.getLastD ⟨0, 0, 0⟩).size else (0, A)
        if T.1 ≠ 0 then ([], T.1, T.2, g3)
        else if (T.2.syncs g3.files).1 ≠ 0 then ([], (T.2.syncs g3.files).1, (T.2.syncs g3.files).2, g3)
        else (R.2.pay.drop (first - (nx - R.2.pay.length)).toNat, 0, (T.2.syncs g3.files).2, g3)
theorem loadA_N (A : AD) (g : AL) (first : Int) : loadA A g first = loadN (numsL A g.name.data.toList) A g first := rfl
theorem sortN_sorted {ns : List Int} (h : ns.Pairwise (· ≤ ·)) : sortN ns = ns := by
  unfold sortN
  exact List.mergeSort_of_pairwise (h.imp (fun h => decide_eq_true h))
def nmLog : ByteArray := ⟨#[108, 111, 103]⟩
def fA0 : AD := ⟨100000, [], p0⟩
def fg1 : AL := ⟨nmLog, 64, [], 0, false⟩
def fR1 : Int × AD × AL := appA fA0 fg1 ⟨#[97]⟩
def fR2 : Int × AD × AL := appA (fR1.2.1.fallen 2) fR1.2.2 ⟨#[98]⟩
def fA3 : AD := (fR2.2.1.crash []).on
def fR4 : List Key × Int × AD × AL := loadN [0, 1] fA3 fg1 0
def fR5 : Int × AD × AL := appA fR4.2.2.1 fR4.2.2.2 ⟨#[99]⟩
def fR6 : List Key × Int × AD × AL := loadN [0, 1] fR5.2.1 fg1 1
set_option maxRecDepth 100000 in
theorem f_err : fR1.1 = 0 ∧ fR2.1 = 9 ∧ fR4.2.1 = 0 ∧ fR5.1 = 0 ∧ fR6.2.1 = 0 := by decide +kernel
set_option maxRecDepth 100000 in
theorem f_pay : fR4.1 = [[97]] ∧ fR6.1 = [[99]] ∧ fR4.2.2.2.next = 1 := by decide +kernel
set_option maxRecDepth 100000 in
theorem f_names : fR5.2.2.files = [[108, 111, 103, 46, 48], [108, 111, 103, 46, 49]] := by decide +kernel
set_option maxRecDepth 100000 in
theorem f_found : foundL fA3 nmLog.data.toList = [0, 1] ∧ foundL fR5.2.1 nmLog.data.toList = [0, 1] := by decide +kernel
set_option maxRecDepth 100000 in
theorem f_off : fA3.pow.off = false ∧ fR5.2.1.pow.off = false := by decide +kernel
theorem f_nums3 : numsL fA3 nmLog.data.toList = [0, 1] := by unfold numsL; rw [f_found.1]; exact sortN_sorted (by decide)
theorem f_nums5 : numsL fR5.2.1 nmLog.data.toList = [0, 1] := by unfold numsL; rw [f_found.2]; exact sortN_sorted (by decide)
set_option maxRecDepth 100000 in
theorem f_args : ¬ (lnameOk nmLog.data.toList = false ∨ (64 : Int) < 64 ∨ (1048576 : Int) < 64 ∨ (0 : Int) < 0 ∨ (1152921504606846976 : Int) < 0) := by decide +kernel
set_option maxRecDepth 100000 in
theorem f_args1 : ¬ (lnameOk nmLog.data.toList = false ∨ (64 : Int) < 64 ∨ (1048576 : Int) < 64 ∨ (1 : Int) < 0 ∨ (1152921504606846976 : Int) < 1) := by decide +kernel
theorem f_open1 : openA fA0 nmLog 64 0 = ⟨some fg1, [], 0, fA0⟩ := by
  have h0 : numsL fA0 nmLog.data.toList = [] := by
    have : foundL fA0 nmLog.data.toList = [] := rfl
    unfold numsL; rw [this]; exact sortN_sorted (by simp)
  unfold openA
  rw [if_neg f_args, if_neg (by decide), loadA_N]
  show (let Z := loadN (numsL fA0 nmLog.data.toList) fA0 ⟨nmLog, 64, [], 0, false⟩ 0; if Z.2.1 ≠ 0 then (⟨none, [], Z.2.1, Z.2.2.1⟩ : ROpen) else ⟨some Z.2.2.2, Z.1, 0, Z.2.2.1⟩) = _
  rw [h0]
  rfl
theorem f_open3 : openA fA3 nmLog 64 0 = ⟨some fR4.2.2.2, [[97]], 0, fR4.2.2.1⟩ := by
  have hz : loadN [0, 1] fA3 ⟨nmLog, 64, [], 0, false⟩ 0 = fR4 := rfl
  unfold openA
  rw [if_neg f_args, if_neg (by rw [f_off.1]; decide), loadA_N]
  show (let Z := loadN (numsL fA3 nmLog.data.toList) fA3 ⟨nmLog, 64, [], 0, false⟩ 0; if Z.2.1 ≠ 0 then (⟨none, [], Z.2.1, Z.2.2.1⟩ : ROpen) else ⟨some Z.2.2.2, Z.1, 0, Z.2.2.1⟩) = _
  rw [f_nums3, hz]
  simp only
  rw [if_neg (by rw [f_err.2.2.1]; simp), f_pay.1]
theorem f_open5 : openA fR5.2.1 nmLog 64 1 = ⟨some fR6.2.2.2, [[99]], 0, fR6.2.2.1⟩ := by
  have hz : loadN [0, 1] fR5.2.1 ⟨nmLog, 64, [], 0, false⟩ 1 = fR6 := rfl
  unfold openA
  rw [if_neg f_args1, if_neg (by rw [f_off.2]; decide), loadA_N]
  show (let Z := loadN (numsL fR5.2.1 nmLog.data.toList) fR5.2.1 ⟨nmLog, 64, [], 0, false⟩ 1; if Z.2.1 ≠ 0 then (⟨none, [], Z.2.1, Z.2.2.1⟩ : ROpen) else ⟨some Z.2.2.2, Z.1, 0, Z.2.2.1⟩) = _
  rw [f_nums5, hz]
  simp only
  rw [if_neg (by rw [f_err.2.2.2.2]; simp), f_pay.2.1]
/-- A log's bounds, as one that is decided. -/
def AL.fitB (g : AL) : Bool := decide (g.name.size ≤ 24) && g.segs.all (fun s => decide (0 ≤ s.size) && decide (s.size ≤ 1048576) && decide (0 ≤ s.num) && decide (s.num ≤ 9999999)) && decide (g.segs.length ≤ 10000000) && decide (-1 ≤ g.next) && decide (g.next ≤ 1152921504606846976 + 1000000)
theorem AL.fit_of {g : AL} (h : g.fitB = true) : g.Fit := by
  unfold AL.fitB at h
  simp only [Bool.and_eq_true, decide_eq_true_eq, List.all_eq_true] at h
  exact ⟨h.1.1.1.1, fun s hs => ⟨⟨(h.1.1.1.2 s hs).1.1.1, (h.1.1.1.2 s hs).1.1.2⟩, (h.1.1.1.2 s hs).1.2, (h.1.1.1.2 s hs).2⟩, h.1.1.2, h.1.2, h.2⟩
set_option maxRecDepth 100000 in
theorem f_fits : fg1.fitB = true ∧ fR1.2.2.fitB = true ∧ fR4.2.2.2.fitB = true ∧ fR5.2.2.fitB = true := by decide +kernel
end Go.Proofs.YtjfbdnogkbhciaaGreatDoor
