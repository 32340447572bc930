/-
  The document's disk: Write.
-/
import Derived.Test.YtlkimfmilccanaaGreatRefRename
import Derived.Deep.DeepCutAuto
import Derived.Laws.Concat
namespace Go.Proofs.YtlkimfmilccanaaGreat
open Go.RowKit Go.Maps Go.WideMaps
set_option linter.unusedVariables false
set_option linter.unusedSimpArgs false
theorem f0_abs (t : ByteArray) : (⟨t, ⟨#[]⟩, ⟨#[]⟩, none, 0, []⟩ : RF).abs = (t.data.toList, AF.new) := rfl
theorem AF.write_all (F : AF) (a : Nat) (t : List UInt8) : (F.write a t).seen = F.seen.take a ++ t ++ F.seen.drop (a + t.length) := by
  unfold AF.write
  split
  · rename_i h
    subst h
    simp
  · rfl
theorem AF.write_safe (F : AF) (a : Nat) (t : List UInt8) : (F.write a t).safe = F.safe := by
  unfold AF.write
  split <;> rfl
/-- Whose sectors are laid. -/
def laidB (a n s : Nat) : Bool := decide (0 < n) && decide (a / 64 ≤ s) && decide (s ≤ (a + n - 1) / 64)
theorem AF.write_dirty (F : AF) (a : Nat) (t : List UInt8) (s : Nat) : (F.write a t).dirty s = (laidB a t.length s || F.dirty s) := by
  unfold AF.write laidB
  split
  · rename_i h
    subst h
    simp
  · rename_i h
    have h0 : 0 < t.length := List.length_pos_iff.2 h
    simp only [h0, decide_true, Bool.true_and]
    rw [Bool.or_comm]
def dsUpto (F : AF) (k : Nat) : List Int := ((List.range k).filter F.dirty).map (fun s : Nat => (s : Int))
theorem dsUpto_succ (F : AF) (k : Nat) : dsUpto F (k + 1) = dsUpto F k ++ (if F.dirty k = true then [(k : Int)] else []) := by
  unfold dsUpto
  rw [List.range_succ, List.filter_append, List.map_append]
  congr 1
  by_cases h : F.dirty k = true
  · simp [h]
  · simp [h]
theorem dsUpto_all (F : AF) : dsUpto F F.nsec = dirtyI F := rfl
theorem dsUpto_few (F : AF) (k : Nat) : (dsUpto F k).length ≤ k := by
  unfold dsUpto
  rw [List.length_map]
  exact Nat.le_trans (List.length_filter_le ..) (by simp)
theorem nsec_lt {F : AF} {k : Nat} : k * 64 < F.seen.length ↔ k < F.nsec := by unfold AF.nsec; omega
theorem abs_of {F : AF} (h : F.Ok) (n seen safe : ByteArray) (ad : Option Addr) (cap : Nat) (h1 : seen.data.toList = F.seen) (h2 : safe.data.toList = F.safe) : (⟨n, seen, safe, ad, cap, dirtyI F⟩ : RF).abs = (n.data.toList, F) := by
  show (n.data.toList, (⟨seen.data.toList, safe.data.toList, fun s => (dirtyI F).contains (s : Int)⟩ : AF)) = _
  rw [h1, h2]
  have : (fun s : Nat => (dirtyI F).contains (s : Int)) = F.dirty := by
    funext s
    unfold dirtyI
    cases hd : F.dirty s with
    | true =>
      rw [List.contains_iff_mem]
      exact List.mem_map.2 ⟨s, (AF.mem_dirtyL h s).2 hd, rfl⟩
    | false =>
      rw [← Bool.not_eq_true, List.contains_iff_mem]
      intro hm
      obtain ⟨x, hx, e⟩ := List.mem_map.1 hm
      have : x = s := by omega
      subst this
      rw [(AF.mem_dirtyL h x).1 hx] at hd
      cases hd
  rw [this]
section
variable {w w1 w2 : World} {r : Nat} {s : RS} {xs : List RF} {S : Nat → Prop} {A : AD}
/-- What Write begins with: the file that is there, or a new one. -/
structure WFile (A : AD) (xs : List RF) (t : ByteArray) (f : RF) (N : Int) : Prop where
  name : f.name.data.toList = t.data.toList
  ok : f.abs.2.Ok
  flen : A.flen t.data.toList = (f.seen.size : Int)
  put : ∀ G, (fget A.fs t.data.toList = some f.abs.2 ∧ fput A.fs t.data.toList G = fset A.fs t.data.toList G ∧ f ∈ xs ∧ 0 ≤ N) ∨ (fget A.fs t.data.toList = none ∧ f.abs.2 = AF.new ∧ f.ds = [] ∧ N = -1)
theorem below_drew' (w : World) : Below w.heap.size w w.drew := ⟨rfl, rfl, rfl, Nat.le_refl _, fun _ _ => rfl⟩
theorem RefAt.under (h : RefAt w r s xs S) (hb : Below w.heap.size w w1) : RefAt w1 r s xs S ∧ Step S S w w1 :=
  ⟨h.same (fun b hb' => hb.block b (h.lt b hb')), Turn.of_below hb S, fun _ h => .inl h⟩
theorem RefAt.aside {s0 : RS} {xs0 : List RF} (h0 : RefAt w r s0 xs0 S) (hst : Step S S w w1) (h1 : RefAt w1 r s xs S) {g : Nat} (hg : w.heap.size ≤ g) (ht : Turn (fun b => b = g) w1 w2) : RefAt w2 r s xs S ∧ Step S S w w2 := by
  refine ⟨h1.same (fun b hb => ht.block b (h1.lt b hb) (fun e => ?_)), hst.turn.trans ht (fun b hb => .inr (by rw [hb]; exact hg)), fun _ h => .inl h⟩
  have := h0.lt b hb
  omega
theorem RefAt.widen (h : RefAt w1 r s xs S) (hst : Step S S w w1) : RefAt w1 r s xs (fun b => S b ∨ (w.heap.size ≤ b ∧ b < w1.heap.size)) ∧ Step S (fun b => S b ∨ (w.heap.size ≤ b ∧ b < w1.heap.size)) w w1 := by
  refine ⟨⟨h.cells, h.files, fun b hb => ?_, .inl h.self, fun b hb => ⟨.inl (h.use b hb).1, (h.use b hb).2⟩⟩, hst.turn, fun b hb => ?_⟩
  · rcases hb with hb | hb
    · exact h.lt b hb
    · exact hb.2
  · rcases hb with hb | hb
    · exact .inl hb
    · exact .inr hb.1
set_option maxRecDepth 5000 in
set_option maxHeartbeats 16000000 in
theorem rWrite_any (h : RefAt w r s xs S) (hr : RRel s xs A) (hok : A.Ok) (t : ByteArray) (hz : t.size ≤ maxLen) (a : Int) (ha : -9223372036854775808 ≤ a ∧ a < 9223372036854775808) (u : ByteArray) (hu : u.size ≤ 140737488355328) : Calls Tryz.prog 58 #[.pointer (some ⟨r, 0, none⟩), .string t, .int .i64 a, .string u] w fun e w' => e = .returned (.int .i64 (A.write t.data.toList a u.data.toList).1) ∧ ∃ s' xs' S', RefAt w' r s' xs' S' ∧ RRel s' xs' (A.write t.data.toList a u.data.toList).2 ∧ Step S S' w w' := by
  have c5 : w.cell? ⟨r, 5, none⟩ = some (.bool A.pow.off) := by rw [← hr.pow.off]; exact h.c 5
  have c1 : w.cell? ⟨r, 1, none⟩ = some (.slice s.ad xs.length s.c) := by rw [← hr.n]; exact h.c 1
  have hl : xs.length ≤ 16 := by have := hok.few; rw [hr.fs, List.length_map] at this; exact this
  have hfind := rFind_any (h.under ((Below.refl _ _).alloc (Nat.le_refl _) (.cells #[.string t, .string ⟨#[]⟩, .string ⟨#[]⟩, .slice none 0 0] 147))).1 hr.n (by omega) t
  have HH := hide h
  have HR := hide hr
  have HFS := hide hr.fs
  have HOK := hide hok
  have hff := h.files
  have hlt : r < w.heap.size := h.lt r h.self
  obtain ⟨ad, had⟩ : ∃ ad, s.ad = ad := ⟨_, rfl⟩
  rw [had] at c1 hff
  have HFF := hide hff
  have HAD := hide had
  have HLT := hide hlt
  clear h hr hok had hff hlt
  obtain ⟨a0, a1⟩ := ha
  cases hoff : A.pow.off with
  | true =>
    have he : A.write t.data.toList a u.data.toList = (9, A) := by unfold AD.write; rw [hoff, if_pos rfl]
    rw [hoff] at c5
    rw [he]
    clear hfind hoff he
    go_enter Tryz.func58, Tryz.ntmps58
    go_wp2
    go_ret
    exact ⟨rfl, s, xs, S, HH.out, HR.out, Step.refl _ _⟩
  | false =>
    rw [hoff] at c5
    have HOF := hide hoff
    obtain ⟨N, hN⟩ : ∃ N, findI xs t.data.toList = N := ⟨_, rfl⟩
    rw [hN] at hfind
    have hwf : ∃ f, WFile A xs t f N ∧ ((N = -1 ∧ f = ⟨t, ⟨#[]⟩, ⟨#[]⟩, none, 0, []⟩) ∨ ∃ i : Nat, i < xs.length ∧ N = (i : Int) ∧ ∃ b o, ad = some ⟨b, o, none⟩ ∧ ∀ j, j < 4 → w.cell? ⟨b, o + i * 4 + j, none⟩ = f.cs[j]?) := by
      cases hg : fget A.fs t.data.toList with
      | none =>
        have hg' := hg
        rw [HFS.out] at hg'
        have e := find_none hg'
        rw [hN] at e
        refine ⟨⟨t, ⟨#[]⟩, ⟨#[]⟩, none, 0, []⟩, ⟨rfl, AF.Ok.new, ?_, fun G => .inr ⟨hg, rfl, rfl, e⟩⟩, .inl ⟨e, rfl⟩⟩
        unfold AD.flen; rw [hg]; rfl
      | some F =>
        have hg' := hg
        rw [HFS.out] at hg'
        obtain ⟨i, hi, hfi, hab⟩ := find_some hg'
        rw [hN] at hfi
        have e2 : xs[i].abs.2 = F := by rw [hab]
        obtain ⟨b, o, hb, _, hcs⟩ := HFF.out.cells hi
        refine ⟨xs[i], ⟨congrArg (·.1) hab, by rw [e2]; exact HOK.out.files _ (fget_mem hg), ?_, fun G => .inl ⟨by rw [e2]; exact hg, fput_fset HOK.out.sorted hg, List.getElem_mem hi, by omega⟩⟩, .inr ⟨i, hi, hfi, b, o, hb, hcs⟩⟩
        unfold AD.flen
        rw [hg, ← e2]
        show ((xs[i].seen.data.toList.length : Nat) : Int) = _
        rw [str_len]
    obtain ⟨f, hwf, hcase⟩ := hwf
    have HWF := hide hwf
    have HCASE := hide hcase
    have hname := rName_any t hz
    obtain ⟨g, hgg⟩ : ∃ g, w.heap.size = g := ⟨_, rfl⟩
    obtain ⟨w3, hw3⟩ : ∃ w3, w.alloc (.cells f.cs 147) = w3 := ⟨_, rfl⟩
    have hb3 : Below w.heap.size w w3 := by rw [← hw3]; exact (Below.refl _ _).alloc (Nat.le_refl _) _
    have hblk : w3.heap[g]? = some (.cells f.cs 147 (0, 0)) := by rw [← hw3, ← hgg]; exact heap_alloc_new w _
    have HBLK := hide hblk
    have HB3 := hide hb3
    have HGG := hide hgg
    have HW3 := hide hw3
    have HEND : Hid (∀ (e : Int) (w' : World), A.fits t.data.toList a u.data.toList.length = e → e ≠ 0 → Below w.heap.size w w' → (Ending.returned (.int .i64 e) = Ending.returned (.int .i64 (A.write t.data.toList a u.data.toList).1) ∧ ∃ s' xs' S', RefAt w' r s' xs' S' ∧ RRel s' xs' (A.write t.data.toList a u.data.toList).2 ∧ Step S S' w w')) := fun e w' hf hne hb => by
      have he : A.write t.data.toList a u.data.toList = (e, A) := by unfold AD.write; rw [HOF.out, if_neg (by simp), hf, if_pos hne]
      rw [he]
      obtain ⟨q1, q2⟩ := HH.out.under hb
      exact ⟨rfl, s, xs, S, q1, HR.out, q2⟩
    have hlz : f.seen.size ≤ 1048576 := by have := HWF.out.ok.most; rw [← str_len]; exact this
    have HFL : Hid (A.flen t.data.toList = (f.seen.size : Int)) := HWF.out.flen
    clear hwf hcase hb3 hblk hN hoff hw3
    go_enter Tryz.func58, Tryz.ntmps58
    go_wp2_with fail
    refine hfind.mono ?_
    rintro e w1 ⟨rfl, rfl⟩
    clear hfind
    go_upto_if 28 with fail
    go_cut [] from 18 (fun wx => wx = w3)
    case first =>
      rcases HCASE.out with ⟨hn, hf⟩ | ⟨i, hi, hn, b, o, rfl, hcs⟩
      · have dn : ¬ (0 : Int) ≤ N := by omega
        have dn2 : decide ((0 : Int) ≤ N) = false := decide_eq_false dn
        have hw3 := HW3.out
        rw [hf] at hw3
        unfold RF.cs at hw3
        simp only [List.length_nil] at hw3
        clear hn hf
        go_wp2_with fail
        go_meet
        rfl
      · have hal : ∀ (q : Addr) (v : Value), w.cell? q = some v → (w.alloc (.cells #[.string t, .string ⟨#[]⟩, .string ⟨#[]⟩, .slice none 0 0] 147)).cell? q = some v := fun q v hv => by rw [World.cell?_alloc_lt _ _ _ (World.block_lt_of_cell? w q hv)]; exact hv
        have f0 := hal ⟨b, o + i * 4, none⟩ (.string f.name) (hcs 0 (by omega))
        have f1 := hal ⟨b, o + i * 4 + 1, none⟩ (.string f.seen) (hcs 1 (by omega))
        have f2 := hal ⟨b, o + i * 4 + 2, none⟩ (.string f.safe) (hcs 2 (by omega))
        have f3 := hal ⟨b, o + i * 4 + 3, none⟩ (.slice f.ad f.ds.length f.cap) (hcs 3 (by omega))
        have d1 := hal _ _ c1
        have hk0 : (0 : Int) ≤ (i : Int) := by omega
        have hk1 : (i : Int) < (xs.length : Int) := by omega
        have hw3 := HW3.out
        unfold RF.cs at hw3
        subst hn
        clear hcs hal
        go_wp2_with fail
        go_meet
        rfl
    case rest =>
    have hcw : w3 = wc := hcut.symm
    subst hcw
    clear hcut
    have gc0 : w3.cell? ⟨g, 0, none⟩ = some (.string f.name) := by rw [cell_of_row w3 g 0 _ _ (0, 0) HBLK.out]; rfl
    have gc1 : w3.cell? ⟨g, 1, none⟩ = some (.string f.seen) := by rw [cell_of_row w3 g 1 _ _ (0, 0) HBLK.out]; rfl
    have d1 : w3.cell? ⟨r, 1, none⟩ = some (.slice ad xs.length s.c) := by rw [World.cell?_of_block (HB3.out.block r HLT.out)]; exact c1
    obtain ⟨z, hz1⟩ : ∃ z, f.seen.size = z := ⟨_, rfl⟩
    rw [hz1] at hlz HFL
    obtain ⟨nu, hnu⟩ : ∃ nu, u.size = nu := ⟨_, rfl⟩
    have hul : u.data.toList.length = nu := by rw [str_len, hnu]
    rw [hnu] at hu
    rw [hul] at HEND
    have HUL := hide hul
    clear c1 c5 hul hz
    replace hname := hname w3
    go_wp2_with fail
    refine hname.mono ?_
    rintro e w4 ⟨rfl, rfl⟩
    clear hname
    cases hnm : nameOk t.data.toList with
    | false =>
      have HE := hide (HEND.out 1 w4 (by unfold AD.fits; rw [if_pos (.inl hnm)]) (by decide) HB3.out)
      clear hnm
      go_wp2
      go_ret
      exact HE.out
    | true =>
    have HNM := hide hnm
    clear hnm
    by_cases ha0 : a < 0
    · have e0 : decide (a < 0) = true := decide_eq_true ha0
      have HE := hide (HEND.out 1 w4 (by unfold AD.fits; rw [if_pos (.inr (.inl ha0))]) (by decide) HB3.out)
      clear ha0
      go_wp2
      go_ret
      exact HE.out
    have e0 : decide (a < 0) = false := decide_eq_false ha0
    by_cases haz : (z : Int) < a
    · have e1 : decide ((z : Int) < a) = true := decide_eq_true haz
      have HE := hide (HEND.out 1 w4 (by unfold AD.fits; rw [if_pos (.inr (.inr (by rw [HFL.out]; exact haz)))]) (by decide) HB3.out)
      clear haz ha0
      go_wp2
      go_ret
      exact HE.out
    have e1 : decide ((z : Int) < a) = false := decide_eq_false haz
    obtain ⟨an, rfl⟩ : ∃ an : Nat, a = (an : Int) := ⟨a.toNat, by omega⟩
    have hanz : an ≤ z := by omega
    have HA1 : Hid (¬ (nameOk t.data.toList = false ∨ (an : Int) < 0 ∨ (an : Int) > A.flen t.data.toList)) := fun hx => by
      rcases hx with hx | hx | hx
      · rw [HNM.out] at hx; cases hx
      · omega
      · rw [HFL.out] at hx; omega
    clear ha0 haz a0 a1
    by_cases hlong : 1048576 < an + nu
    · have e2 : decide ((1048576 : Int) < (an : Int) + (nu : Int)) = true := decide_eq_true (by omega)
      have HE := hide (HEND.out 3 w4 (by unfold AD.fits; rw [if_neg HA1.out, if_pos (by rw [HFL.out]; omega)]) (by decide) HB3.out)
      clear hlong
      go_wp2
      go_ret
      exact HE.out
    have e2 : decide ((1048576 : Int) < (an : Int) + (nu : Int)) = false := decide_eq_false (by omega)
    have HA2 : Hid (¬ (max (A.flen t.data.toList) ((an : Int) + (nu : Int)) > 1048576)) := fun hx => by rw [HFL.out] at hx; omega
    have hend : an + nu ≤ 1048576 := by omega
    clear hlong
    by_cases hfull : (fget A.fs t.data.toList).isNone = true ∧ 16 ≤ A.fs.length
    · have hN0 : N = -1 := by
        rcases HWF.out.put AF.new with ⟨q, _⟩ | ⟨_, _, _, q⟩
        · rw [q] at hfull; simp at hfull
        · exact q
      have e3 : decide (N < 0) = true := decide_eq_true (by omega)
      have hx16 : 16 ≤ xs.length := by have := hfull.2; rw [HFS.out, List.length_map] at this; exact this
      have e4 : decide ((16 : Int) ≤ (xs.length : Int)) = true := decide_eq_true (by omega)
      have HE := hide (HEND.out 6 w4 (by unfold AD.fits; rw [if_neg HA1.out, if_neg HA2.out, if_pos hfull]) (by decide) HB3.out)
      clear hfull hN0
      go_wp2
      go_ret
      exact HE.out
    have HFU := hide hfull
    have e34 : decide (N < 0) = false ∨ (decide (N < 0) = true ∧ decide ((16 : Int) ≤ (xs.length : Int)) = false) := by
      by_cases hN : N < 0
      · right
        refine ⟨decide_eq_true hN, decide_eq_false (fun hx => hfull ?_)⟩
        rcases HWF.out.put AF.new with ⟨_, _, _, q⟩ | ⟨q, _⟩
        · omega
        · refine ⟨by rw [q]; rfl, ?_⟩
          rw [HFS.out, List.length_map]; omega
      · exact .inl (decide_eq_false hN)
    clear hfull
    obtain ⟨mo, hmo⟩ : ∃ mo : Nat, an + nu - z = mo := ⟨_, rfl⟩
    have hmax : max (0 : Int) ((an : Int) + (nu : Int) - (z : Int)) = (mo : Int) := by omega
    obtain ⟨us, hus⟩ : ∃ us, fused A.fs = us := ⟨_, rfl⟩
    have husm : us ≤ 16777216 := by
      have h1 := HOK.out.space
      have h2 := HOK.out.c1
      rw [hus] at h1
      omega
    obtain ⟨hru, hsu⟩ := HH.out.under HB3.out
    obtain ⟨hru2, hsu2⟩ := hru.under (below_drew' w4)
    have hused := rUsed_any hru2 HR.out HOK.out
    rw [hus] at hused
    have HUSED := hide hused
    have HRU := hide hru2
    have HSU := hide (hsu.trans hsu2)
    have hcap := hru.c 0
    have hcap' : w4.cell? ⟨r, 0, none⟩ = some (.int .i64 A.cap) := by rw [← HR.out.cap]; exact hcap
    have hc0 := HOK.out.c0
    have hc1 := HOK.out.c1
    clear hru hru2 hsu hsu2 hused hcap
    have HSP : Hid (A.fits t.data.toList (an : Int) (nu : Int) = if A.cap < (us : Int) + (mo : Int) then 41 else 0) := by
      show _ = _
      unfold AD.fits
      rw [if_neg HA1.out, if_neg HA2.out, if_neg HFU.out, HFL.out, hus]
      by_cases hx : A.cap < (us : Int) + (mo : Int)
      · rw [if_pos hx, if_pos (by omega)]
      · rw [if_neg hx, if_neg (by omega)]
    clear hus hmo
    go_upto_region 12 with fail
    go_cut [65] from 18 (fun s65 wx => s65 = .bool false ∧ wx = w4)
    case first =>
      rcases e34 with e3 | ⟨e3, e4⟩
      · go_wp2_with fail
        go_meet
        exact ⟨rfl, rfl⟩
      · go_wp2_with fail
        go_meet
        exact ⟨rfl, rfl⟩
    case rest =>
    obtain ⟨rfl, hcut2⟩ := hcut
    have hcw : w4 = wc := hcut2.symm
    subst hcw
    clear hcut2 e34
    go_upto_region 15 with fail
    refine wp_region_noPanic ?_
    refine wp_region_held_drew (S := fun wx => wx.cell? ⟨r, 0, none⟩ = some (.int .i64 A.cap)) (by kernel_rfl) hcap' (fun hHeld => ?_)
    refine tK 0 (some 72) (.pointer (some ⟨r, 0, none⟩)) rfl hHeld ?_
    simp only [Act.put, pA, pB, pC]
    refine tK 2 (some 74) (.int .i64 (mo : Int)) rfl hHeld ?_
    simp only [Act.put, pA, pB, pC]
    refine tK 4 (some 76) (.pointer (some ⟨r, 0, none⟩)) rfl hHeld ?_
    simp only [Act.put, pA, pB, pC]
    refine tK 5 (some 77) (.pointer (some ⟨r, 0, none⟩)) rfl hHeld ?_
    simp only [Act.put, pA, pB, pC]
    refine tK 6 (some 78) (.pointer (some ⟨r, 0, none⟩)) rfl hHeld ?_
    simp only [Act.put, pA, pB, pC]
    refine tH 7 (some 79) (.int .i64 A.cap) rfl (fun w hw => by have hw' : w.cell? ⟨r, 0, none⟩ = some (.int .i64 A.cap) := hw; first | rfl | (go_simp; done) | (go_simp; rfl)) hHeld ?_
    simp only [Act.put, pA, pB, pC]
    refine rdH 1 rfl (fun K hK => ?_)
    go_simp
    refine HUSED.out.mono ?_
    rintro e w5 ⟨rfl, rfl⟩
    try go_wp2_with fail
    refine hK.out _ _ hcap' (fun hHeld => ?_)
    clear hK K
    have hsum : (us : Int) + (mo : Int) < 9223372036854775808 := by omega
    refine tH 3 (some 75) (.int .i64 ((us : Int) + (mo : Int))) rfl (fun w hw => by have hwr := wrap_id (x := (us : Int) + (mo : Int)) (by omega) (by omega); first | rfl | (go_simp; done) | (go_simp; rfl)) hHeld ?_
    simp only [Act.put, pA, pB, pC]
    by_cases hsp : A.cap < (us : Int) + (mo : Int)
    · have e5 : decide (A.cap < (us : Int) + (mo : Int)) = true := decide_eq_true hsp
      have HE := hide (HEND.out 41 w4.drew (by rw [HSP.out, if_pos hsp]) (by decide) (HB3.out.trans ((below_drew' w4).mono HB3.out.size)))
      refine tK 8 (some 80) (.bool true) rfl hHeld ?_
      simp only [Act.put, pA, pB, pC]
      refine ⟨by kernel_rfl, ?_⟩
      refine NoPanic.normal ?_
      clear hsp hHeld
      go_wp2
      go_ret
      exact HE.out
    have e5 : decide (A.cap < (us : Int) + (mo : Int)) = false := decide_eq_false hsp
    have HF0 : Hid (A.fits t.data.toList (an : Int) (nu : Int) = 0) := by show _ = _; rw [HSP.out, if_neg hsp]
    refine tK 8 (some 80) (.bool false) rfl hHeld ?_
    simp only [Act.put, pA, pB, pC]
    refine ⟨by kernel_rfl, ?_⟩
    refine NoPanic.normal ?_
    generalize hw5 : w4.drew = w5
    have hrw5 : RefAt w5 r s xs S := by rw [← hw5]; exact HRU.out
    have HSU5 : Hid (Step S S w w5) := by rw [← hw5]; exact HSU.out
    have HB5 : Hid (Below w.heap.size w w5) := by rw [← hw5]; exact HB3.out.trans ((below_drew' w4).mono HB3.out.size)
    have HK5 : Hid (w5.heap[g]? = some (.cells f.cs 147 (0, 0))) := by rw [← hw5]; exact HBLK.out
    have href := refused_any hrw5 HR.out HOK.out.pow 1
    have HR5 := hide hrw5
    obtain ⟨cn, hcn⟩ : ∃ cn, (A.pow.count 1).1 = cn := ⟨_, rfl⟩
    obtain ⟨P, hP⟩ : ∃ P, (A.pow.count 1).2 = P := ⟨_, rfl⟩
    rw [hcn, hP] at href
    have HWE : Hid (A.write t.data.toList (an : Int) u.data.toList = if cn ≠ 0 then (cn, { A with pow := P }) else (0, ⟨A.cap, fput A.fs t.data.toList (f.abs.2.write an u.data.toList), P⟩)) := by
      show _ = _
      unfold AD.write
      rw [HOF.out, if_neg (by simp), HUL.out, HF0.out, if_neg (by simp), hcn, hP]
      by_cases hc : cn ≠ 0
      · rw [if_pos hc, if_pos hc]
      · rw [if_neg hc, if_neg hc]
        rcases HWF.out.put (f.abs.2.write an u.data.toList) with ⟨q, q2, _⟩ | ⟨q, q2, _⟩
        · rw [q, q2]; rfl
        · rw [q, q2]; rfl
    clear hsp hHeld hrw5 hcn hP hcap' HUSED HRU HSU HSP HEND hw5 gc0 gc1 d1 hmax husm hsum hc0 hc1 e5
    go_wp2_with fail
    refine href.mono ?_
    rintro e w6 ⟨rfl, s6, h6, hr6, ht6⟩
    have HS6 := hide (HSU5.out.trans (step_self HR5.out ht6))
    by_cases hc0 : cn = 0
    · subst hc0
      have HWE2 : Hid (A.write t.data.toList (an : Int) u.data.toList = (0, ⟨A.cap, fput A.fs t.data.toList (f.abs.2.write an u.data.toList), P⟩)) := by show _ = _; rw [HWE.out, if_neg (by simp)]
      have hgw : w.heap.size ≤ g := by rw [HGG.out]; exact Nat.le_refl _
      have hgr : g ≠ r := by have := HLT.out; omega
      have hg5 : g < w5.heap.size := lt_of_some HK5.out
      have hk6 : w6.heap[g]? = some (.cells f.cs 147 (0, 0)) := by rw [ht6.block g hg5 hgr]; exact HK5.out
      have gc1 : w6.cell? ⟨g, 1, none⟩ = some (.string f.seen) := by rw [cell_of_row w6 g 1 _ _ (0, 0) hk6]; rfl
      have gz1 : w6.frozen? ⟨g, 1, none⟩ = false := frozen_of_row w6 g 1 _ _ hk6
      obtain ⟨V1, hV1⟩ : ∃ V, f.seen.extract 0 an = V := ⟨_, rfl⟩
      obtain ⟨V3, hV3⟩ : ∃ V : ByteArray, (if an + nu < z then f.seen.extract (an + nu) z else ⟨#[]⟩) = V := ⟨_, rfl⟩
      have hfl : f.seen.data.toList.length = z := by rw [str_len, hz1]
      have l1 : V1.data.toList = f.seen.data.toList.take an := by
        rw [← hV1, ByteArray.data_extract]
        simp only [Array.toList_extract, List.extract, Nat.sub_zero, List.drop_zero]
      have l3 : V3.data.toList = f.seen.data.toList.drop (an + nu) := by
        rw [← hV3]
        by_cases hq : an + nu < z
        · rw [if_pos hq, ByteArray.data_extract]
          simp only [Array.toList_extract, List.extract]
          exact List.take_of_length_le (by rw [List.length_drop]; omega)
        · rw [if_neg hq]
          exact (List.drop_eq_nil_of_le (by omega)).symm
      have hs1 : V1.size ≤ z := by rw [← str_len, l1, List.length_take]; omega
      have hs3 : V3.size ≤ z := by rw [← str_len, l3, List.length_drop]; omega
      obtain ⟨Y1, hY1⟩ : ∃ Y, V1 ++ u = Y := ⟨_, rfl⟩
      obtain ⟨Y, hY⟩ : ∃ Y, Y1 ++ V3 = Y := ⟨_, rfl⟩
      have hsY1 : Y1.size = V1.size + nu := by rw [← hY1, ByteArray.size_append, hnu]
      have hadd1 : ∀ wx : World, (Op.stringOp .add V1 u).run Tryz.prog wx = .ok (.string Y1) wx := fun wx => by rw [← hY1]; exact run_string_add_sum wx V1 u (by omega)
      have hadd2 : ∀ wx : World, (Op.stringOp .add Y1 V3).run Tryz.prog wx = .ok (.string Y) wx := fun wx => by rw [← hY]; exact run_string_add_sum wx Y1 V3 (by omega)
      obtain ⟨F', hF'⟩ : ∃ F', f.abs.2.write an u.data.toList = F' := ⟨_, rfl⟩
      have hYl : Y.data.toList = F'.seen := by
        rw [← hF', AF.write_all, ← hY, ← hY1, HUL.out]
        show _ = f.seen.data.toList.take an ++ u.data.toList ++ f.seen.data.toList.drop (an + nu)
        rw [← l1, ← l3]
        simp
      have hF'o : F'.Ok := by rw [← hF']; exact AF.Ok.write HWF.out.ok (by show an ≤ f.seen.data.toList.length; omega) (by rw [HUL.out]; exact hend)
      have HFS' : Hid (F'.safe = f.safe.data.toList) := by show _ = _; rw [← hF', AF.write_safe]; rfl
      have HFD' : Hid (∀ q, F'.dirty q = (laidB an nu q || f.ds.contains (q : Int))) := fun q => by rw [← hF', AF.write_dirty, HUL.out]; rfl
      rw [hF'] at HWE2
      obtain ⟨zy, hzy⟩ : ∃ zy, Y.size = zy := ⟨_, rfl⟩
      have hzyF : F'.seen.length = zy := by rw [← hYl, str_len, hzy]
      have HZY := hide hzyF
      have hzym : zy ≤ 1048576 := by rw [← hzyF]; exact hF'o.most
      have hns : F'.nsec ≤ 16384 := AF.nsec_le hF'o
      obtain ⟨w7, hw7⟩ : ∃ w7, w6.setCell ⟨g, 1, none⟩ (.string Y) = w7 := ⟨_, rfl⟩
      have ht7 : Turn (fun b => b = g) w6 w7 := by rw [← hw7]; exact Turn.setCell w6 ⟨g, 1, none⟩ _
      have hk7 : w7.heap[g]? = some (.cells #[.string f.name, .string Y, .string f.safe, .slice f.ad f.ds.length f.cap] 147 (0, 0)) := by rw [← hw7, heap_setCell_same w6 g 1 _ _ _ hk6]; rfl
      obtain ⟨h7, hst7⟩ := HH.out.aside HS6.out h6 hgw ht7
      have HF'o := hide hF'o
      have HYL := hide hYl
      have H7 := hide h7
      have HST7 := hide hst7
      have HR6 := hide hr6
      have HK7 := hide hk7
      have HGW := hide hgw
      have HGR := hide hgr
      have hfr : RowAt w7 f.ad (f.ds.map (Value.int .i64)) := by
        rcases HWF.out.put AF.new with ⟨_, _, q, _⟩ | ⟨_, _, q, _⟩
        · exact h7.files.dirty f q
        · rw [q]; exact .inl rfl
      have hfdl : f.ds.length ≤ maxLen := by
        rcases HWF.out.put AF.new with ⟨_, _, q, _⟩ | ⟨_, _, q, _⟩
        · have q2 := HR6.out.ds f q
          rw [q2]
          unfold dirtyI
          rw [List.length_map]
          exact Nat.le_trans (AF.dirtyL_length HWF.out.ok) (by unfold maxLen; omega)
        · rw [q]; exact Nat.zero_le _
      have HFR := hide hfr
      obtain ⟨B7, hB7⟩ : ∃ B, w7.heap.size = B := ⟨_, rfl⟩
      have HB7 := hide hB7
      have hgl7 : g < B7 := by rw [← hB7]; exact lt_of_some hk7
      clear href h6 hr6 ht6 hF' hF'o hYl hzyF l1 l3 hs1 hs3 hsY1 hY hY1 ht7 hk7 h7 hst7 hgw hgr hg5 hfl hfr hB7 hk6
      go_upto_if 90 with fail
      go_cut [14] from 18 (fun s14 wx => s14 = .string V3 ∧ wx = w6)
      case first =>
        by_cases hq : an + nu < z
        · have dq : decide ((an : Int) + (nu : Int) < (z : Int)) = true := decide_eq_true (by omega)
          rw [if_pos hq] at hV3
          go_wp2_with fail
          go_meet
          exact ⟨by rw [hV3], rfl⟩
        · have dq : decide ((an : Int) + (nu : Int) < (z : Int)) = false := decide_eq_false (by omega)
          rw [if_neg hq] at hV3
          go_wp2_with fail
          go_meet
          exact ⟨by rw [← hV3], rfl⟩
      case rest =>
      obtain ⟨rfl, hcut2⟩ := hcut
      have hcw : w6 = wc := hcut2.symm
      subst hcw
      clear hcut2 hV3
      go_wp2
      clear gc1 gz1 hw7 hadd1 hadd2 hV1
      go_loopw [15, 16] (fun v i wr => ∃ (k : Nat) (vo : Value), vo = v ∧ k ≤ F'.nsec ∧ i = .int .i64 (k : Int) ∧ wr.ownsRow B7 3 1 vo (dsUpto F' k).length ((dsUpto F' k).map (Value.int .i64)) ∧ Below B7 w7 wr) (fun _ i _ => F'.nsec - (intOf i).toNat)
      case atStart => exact ⟨0, _, rfl, by omega, rfl, World.ownsRow_nil _ _ _ _, Below.refl _ _⟩
      case round =>
        obtain ⟨k, vo, rfl, hk, rfl, hown, hbr⟩ := hrel
        have gcell : ∀ j, wr.cell? ⟨g, j, none⟩ = (#[.string f.name, .string Y, .string f.safe, .slice f.ad f.ds.length f.cap] : Array Value)[j]? := fun j => by rw [cell_of_row wr g j _ _ (0, 0) (by rw [hbr.block g hgl7]; exact HK7.out)]
        have gc1 : wr.cell? ⟨g, 1, none⟩ = some (.string Y) := gcell 1
        have gc3 : wr.cell? ⟨g, 3, none⟩ = some (.slice f.ad f.ds.length f.cap) := gcell 3
        by_cases hlt : k < F'.nsec
        · have hk64 : k * 64 < zy := by rw [← HZY.out]; exact nsec_lt.2 hlt
          have dk : decide ((k : Int) * 64 < (zy : Int)) = true := decide_eq_true (by omega)
          clear gcell
          by_cases hu0 : nu = 0
          · have d0 : decide ((0 : Int) < (nu : Int)) = false := decide_eq_false (by omega)
            have d0' : ¬ 0 < nu := by omega
            have hlb : laidB an nu k = false := by unfold laidB; rw [decide_eq_false d0']; rfl
            clear hu0
            cases hq : f.ds.contains (k : Int) with
            | true =>
              have hfd : F'.dirty k = true := by rw [HFD'.out, hlb, hq]; rfl
              have hin := rIn_any wr f.ad f.cap f.ds (HFR.out.below (by rw [HB7.out]; exact hbr)) hfdl (k : Int)
              rw [hq] at hin
              obtain ⟨g1, hg1⟩ : ∃ g, wr.heap.size = g := ⟨_, rfl⟩
              obtain ⟨wa, hwa⟩ : ∃ w1, wr.alloc (.cells #[.int .i64 (k : Int)] 3) = w1 := ⟨_, rfl⟩
              obtain ⟨v2, wb, hap, hr2, hb3⟩ := app_one Tryz.underlying38 info3r rfl (by decide) hown (by rw [← HB7.out]; exact hbr.size) #[.int .i64 (k : Int)] rfl (by intro u hu; simp at hu; subst hu; rfl) (by have := dsUpto_few F' k; omega) (by have := dsUpto_few F' k; unfold maxLen; omega) 38 hwa hg1
              have HO : Hid (wb.ownsRow B7 3 1 v2 (dsUpto F' (k + 1)).length ((dsUpto F' (k + 1)).map (Value.int .i64))) := by
                rw [dsUpto_succ, if_pos hfd, List.length_append, List.map_append]; exact hr2
              have HB := hide (hbr.trans hb3)
              clear hown hbr hr2 hb3 hfd
              clear hq
              go_wp2_with fail
              refine hin.mono ?_
              rintro e w9 ⟨rfl, rfl⟩
              clear hin
              go_wp2_with (at_builtin; refine wpList_app rfl _ _ _ rfl hap ?_; try go_frame)
              go_roundw
              case rel => exact ⟨k + 1, _, rfl, by omega, by go_num, HO.out, HB.out⟩
              case measure => simp [intOf]; omega
            | false =>
              have hfd : F'.dirty k = false := by rw [HFD'.out, hlb, hq]; rfl
              have hin := rIn_any wr f.ad f.cap f.ds (HFR.out.below (by rw [HB7.out]; exact hbr)) hfdl (k : Int)
              rw [hq] at hin
              have HO : Hid (wr.ownsRow B7 3 1 vo (dsUpto F' (k + 1)).length ((dsUpto F' (k + 1)).map (Value.int .i64))) := by
                rw [dsUpto_succ, if_neg (by rw [hfd]; simp), List.append_nil]; exact hown
              have HB := hide hbr
              clear hown hbr hfd
              clear hq
              go_wp2_with fail
              refine hin.mono ?_
              rintro e w9 ⟨rfl, rfl⟩
              clear hin
              go_wp2
              go_roundw
              case rel => exact ⟨k + 1, _, rfl, by omega, by go_num, HO.out, HB.out⟩
              case measure => simp [intOf]; omega
          have hupos : 0 < nu := by omega
          have d0 : decide ((0 : Int) < (nu : Int)) = true := decide_eq_true (by omega)
          obtain ⟨lo, hlo⟩ : ∃ lo, an / 64 = lo := ⟨_, rfl⟩
          obtain ⟨hi, hhi⟩ : ∃ hi, (an + nu - 1) / 64 = hi := ⟨_, rfl⟩
          have q1 : ((an : Int) / 64) = (lo : Int) := by omega
          have q2 : (((an : Int) + (nu : Int) - 1) / 64) = (hi : Int) := by omega
          have HL : Hid (laidB an nu k = (decide (lo ≤ k) && decide (k ≤ hi))) := by show _ = _; unfold laidB; rw [decide_eq_true hupos, hlo, hhi]; rfl
          clear hlo hhi hu0
          by_cases h1 : lo ≤ k
          · have d1 : decide ((lo : Int) ≤ (k : Int)) = true := decide_eq_true (by omega)
            by_cases h2 : k ≤ hi
            · have d2 : decide ((k : Int) ≤ (hi : Int)) = true := decide_eq_true (by omega)
              have hfd : F'.dirty k = true := by rw [HFD'.out, HL.out, decide_eq_true h1, decide_eq_true h2]; rfl
              obtain ⟨g1, hg1⟩ : ∃ g, wr.heap.size = g := ⟨_, rfl⟩
              obtain ⟨wa, hwa⟩ : ∃ w1, wr.alloc (.cells #[.int .i64 (k : Int)] 3) = w1 := ⟨_, rfl⟩
              obtain ⟨v2, wb, hap, hr2, hb3⟩ := app_one Tryz.underlying38 info3r rfl (by decide) hown (by rw [← HB7.out]; exact hbr.size) #[.int .i64 (k : Int)] rfl (by intro u hu; simp at hu; subst hu; rfl) (by have := dsUpto_few F' k; omega) (by have := dsUpto_few F' k; unfold maxLen; omega) 38 hwa hg1
              have HO : Hid (wb.ownsRow B7 3 1 v2 (dsUpto F' (k + 1)).length ((dsUpto F' (k + 1)).map (Value.int .i64))) := by
                rw [dsUpto_succ, if_pos hfd, List.length_append, List.map_append]; exact hr2
              have HB := hide (hbr.trans hb3)
              clear hown hbr hr2 hb3 hfd
              go_wp2_with (at_builtin; refine wpList_app rfl _ _ _ rfl hap ?_; try go_frame)
              go_roundw
              case rel => exact ⟨k + 1, _, rfl, by omega, by go_num, HO.out, HB.out⟩
              case measure => simp [intOf]; omega
            · have d2 : decide ((k : Int) ≤ (hi : Int)) = false := decide_eq_false (by omega)
              have hlb : laidB an nu k = false := by rw [HL.out, decide_eq_false h2, Bool.and_false]
              cases hq : f.ds.contains (k : Int) with
              | true =>
                have hfd : F'.dirty k = true := by rw [HFD'.out, hlb, hq]; rfl
                have hin := rIn_any wr f.ad f.cap f.ds (HFR.out.below (by rw [HB7.out]; exact hbr)) hfdl (k : Int)
                rw [hq] at hin
                obtain ⟨g1, hg1⟩ : ∃ g, wr.heap.size = g := ⟨_, rfl⟩
                obtain ⟨wa, hwa⟩ : ∃ w1, wr.alloc (.cells #[.int .i64 (k : Int)] 3) = w1 := ⟨_, rfl⟩
                obtain ⟨v2, wb, hap, hr2, hb3⟩ := app_one Tryz.underlying38 info3r rfl (by decide) hown (by rw [← HB7.out]; exact hbr.size) #[.int .i64 (k : Int)] rfl (by intro u hu; simp at hu; subst hu; rfl) (by have := dsUpto_few F' k; omega) (by have := dsUpto_few F' k; unfold maxLen; omega) 38 hwa hg1
                have HO : Hid (wb.ownsRow B7 3 1 v2 (dsUpto F' (k + 1)).length ((dsUpto F' (k + 1)).map (Value.int .i64))) := by
                  rw [dsUpto_succ, if_pos hfd, List.length_append, List.map_append]; exact hr2
                have HB := hide (hbr.trans hb3)
                clear hown hbr hr2 hb3 hfd
                clear hq
                go_wp2_with fail
                refine hin.mono ?_
                rintro e w9 ⟨rfl, rfl⟩
                clear hin
                go_wp2_with (at_builtin; refine wpList_app rfl _ _ _ rfl hap ?_; try go_frame)
                go_roundw
                case rel => exact ⟨k + 1, _, rfl, by omega, by go_num, HO.out, HB.out⟩
                case measure => simp [intOf]; omega
              | false =>
                have hfd : F'.dirty k = false := by rw [HFD'.out, hlb, hq]; rfl
                have hin := rIn_any wr f.ad f.cap f.ds (HFR.out.below (by rw [HB7.out]; exact hbr)) hfdl (k : Int)
                rw [hq] at hin
                have HO : Hid (wr.ownsRow B7 3 1 vo (dsUpto F' (k + 1)).length ((dsUpto F' (k + 1)).map (Value.int .i64))) := by
                  rw [dsUpto_succ, if_neg (by rw [hfd]; simp), List.append_nil]; exact hown
                have HB := hide hbr
                clear hown hbr hfd
                clear hq
                go_wp2_with fail
                refine hin.mono ?_
                rintro e w9 ⟨rfl, rfl⟩
                clear hin
                go_wp2
                go_roundw
                case rel => exact ⟨k + 1, _, rfl, by omega, by go_num, HO.out, HB.out⟩
                case measure => simp [intOf]; omega
          · have d1 : decide ((lo : Int) ≤ (k : Int)) = false := decide_eq_false (by omega)
            have hlb : laidB an nu k = false := by rw [HL.out, decide_eq_false h1]; rfl
            cases hq : f.ds.contains (k : Int) with
            | true =>
              have hfd : F'.dirty k = true := by rw [HFD'.out, hlb, hq]; rfl
              have hin := rIn_any wr f.ad f.cap f.ds (HFR.out.below (by rw [HB7.out]; exact hbr)) hfdl (k : Int)
              rw [hq] at hin
              obtain ⟨g1, hg1⟩ : ∃ g, wr.heap.size = g := ⟨_, rfl⟩
              obtain ⟨wa, hwa⟩ : ∃ w1, wr.alloc (.cells #[.int .i64 (k : Int)] 3) = w1 := ⟨_, rfl⟩
              obtain ⟨v2, wb, hap, hr2, hb3⟩ := app_one Tryz.underlying38 info3r rfl (by decide) hown (by rw [← HB7.out]; exact hbr.size) #[.int .i64 (k : Int)] rfl (by intro u hu; simp at hu; subst hu; rfl) (by have := dsUpto_few F' k; omega) (by have := dsUpto_few F' k; unfold maxLen; omega) 38 hwa hg1
              have HO : Hid (wb.ownsRow B7 3 1 v2 (dsUpto F' (k + 1)).length ((dsUpto F' (k + 1)).map (Value.int .i64))) := by
                rw [dsUpto_succ, if_pos hfd, List.length_append, List.map_append]; exact hr2
              have HB := hide (hbr.trans hb3)
              clear hown hbr hr2 hb3 hfd
              clear hq
              go_wp2_with fail
              refine hin.mono ?_
              rintro e w9 ⟨rfl, rfl⟩
              clear hin
              go_wp2_with (at_builtin; refine wpList_app rfl _ _ _ rfl hap ?_; try go_frame)
              go_roundw
              case rel => exact ⟨k + 1, _, rfl, by omega, by go_num, HO.out, HB.out⟩
              case measure => simp [intOf]; omega
            | false =>
              have hfd : F'.dirty k = false := by rw [HFD'.out, hlb, hq]; rfl
              have hin := rIn_any wr f.ad f.cap f.ds (HFR.out.below (by rw [HB7.out]; exact hbr)) hfdl (k : Int)
              rw [hq] at hin
              have HO : Hid (wr.ownsRow B7 3 1 vo (dsUpto F' (k + 1)).length ((dsUpto F' (k + 1)).map (Value.int .i64))) := by
                rw [dsUpto_succ, if_neg (by rw [hfd]; simp), List.append_nil]; exact hown
              have HB := hide hbr
              clear hown hbr hfd
              clear hq
              go_wp2_with fail
              refine hin.mono ?_
              rintro e w9 ⟨rfl, rfl⟩
              clear hin
              go_wp2
              go_roundw
              case rel => exact ⟨k + 1, _, rfl, by omega, by go_num, HO.out, HB.out⟩
              case measure => simp [intOf]; omega
        · have hkl : k = F'.nsec := by omega
          subst hkl
          have hk64 : ¬ F'.nsec * 64 < zy := by rw [← HZY.out]; exact fun hx => absurd (nsec_lt.1 hx) (by omega)
          have dk : decide ((F'.nsec : Int) * 64 < (zy : Int)) = false := decide_eq_false (by omega)
          rw [dsUpto_all] at hown
          obtain ⟨adv, capv, rfl, hrv, hlv, hbv⟩ := own_at hown
          have gz3 : wr.frozen? ⟨g, 3, none⟩ = false := frozen_of_row wr g 3 _ _ (by rw [hbr.block g hgl7]; exact HK7.out)
          obtain ⟨w8, hw8⟩ : ∃ w8, wr.setCell ⟨g, 3, none⟩ (.slice adv (dirtyI F').length capv) = w8 := ⟨_, rfl⟩
          have ht8 : Turn (fun b => b = g) wr w8 := by rw [← hw8]; exact Turn.setCell wr ⟨g, 3, none⟩ _
          have hk8 : w8.heap[g]? = some (.cells #[.string f.name, .string Y, .string f.safe, .slice adv (dirtyI F').length capv] 147 (0, 0)) := by rw [← hw8, heap_setCell_same wr g 3 _ _ _ (by rw [hbr.block g hgl7]; exact HK7.out)]; rfl
          obtain ⟨ha, hsa⟩ := H7.out.under (by rw [HB7.out]; exact hbr)
          obtain ⟨h8, hst8⟩ := HH.out.aside (HST7.out.trans hsa) ha HGW.out ht8
          obtain ⟨h9, hst9⟩ := h8.widen hst8
          have hrow8 : RowAt w8 adv ((dirtyI F').map (Value.int .i64)) := hrv.keep ht8.size (fun hx b o hab => ht8.block b (by
            rcases hrv with hh | ⟨b', o', hab', hl', _⟩
            · exact absurd hh hx
            · rw [hab] at hab'; cases hab'; exact hl') (fun e => by have := hbv b o hab; omega))
          have hadl : ∀ b o, (dirtyI F') ≠ [] → adv = some ⟨b, o, none⟩ → w.heap.size ≤ b ∧ b < w8.heap.size ∧ b ≠ r := fun b o hne hab => by
            have hb1 := hbv b o hab
            have hb2 : w.heap.size ≤ g := HGW.out
            refine ⟨by omega, ?_, fun e => ?_⟩
            · rcases hrow8 with hh | ⟨b', o', hab', hl', _⟩
              · exact absurd (List.map_eq_nil_iff.1 hh) hne
              · rw [hab] at hab'; cases hab'; exact hl'
            · have := HLT.out; omega
          have c1 : w8.cell? ⟨r, 1, none⟩ = some (.slice s6.ad xs.length s6.c) := by rw [← HR6.out.n]; exact h8.c 1
          have HS1 : Hid (w8.cell? ⟨r, 1, none⟩ = some (.slice s6.ad xs.length s6.c) ∧ w8.cell? ⟨g, 0, none⟩ = some (.string f.name) ∧ w8.cell? ⟨g, 1, none⟩ = some (.string Y) ∧ w8.cell? ⟨g, 2, none⟩ = some (.string f.safe) ∧ w8.cell? ⟨g, 3, none⟩ = some (.slice adv (dirtyI F').length capv)) := ⟨c1, by rw [cell_of_row w8 g 0 _ _ (0, 0) hk8]; rfl, by rw [cell_of_row w8 g 1 _ _ (0, 0) hk8]; rfl, by rw [cell_of_row w8 g 2 _ _ (0, 0) hk8]; rfl, by rw [cell_of_row w8 g 3 _ _ (0, 0) hk8]; rfl⟩
          obtain ⟨f', hf'⟩ : ∃ f' : RF, f' = ⟨f.name, Y, f.safe, adv, capv, dirtyI F'⟩ := ⟨_, rfl⟩
          have hput := put_any w8.drew s6.ad s6.c xs (h8.files.below (below_drew' w8)) (by omega) f'
          have hab : f'.abs = (t.data.toList, F') := by rw [hf', abs_of HF'o.out f.name Y f.safe adv capv HYL.out HFS'.out.symm, HWF.out.name]
          have hmem : ∀ y ∈ putR xs f', y ∈ xs ∨ (RowAt w8 y.ad (y.ds.map (Value.int .i64)) ∧ (y.ds ≠ [] → ∀ b o, y.ad = some ⟨b, o, none⟩ → ((S b ∨ (w.heap.size ≤ b ∧ b < w8.heap.size)) ∧ b ≠ r) ∨ w8.heap.size ≤ b) ∧ y.ds = dirtyI y.abs.2) := fun y hy => by
            rcases putR_mem hy with rfl | hy
            · right
              refine ⟨by rw [hf']; exact hrow8, fun hd b o hh => .inl ?_, by rw [hab, hf']⟩
              rw [hf'] at hd hh
              obtain ⟨q1, q2, q3⟩ := hadl b o hd hh
              exact ⟨.inr ⟨q1, q2⟩, q3⟩
            · exact .inl hy
          have HMEM := hide hmem
          have HAB := hide hab
          have HPUT := hide hput
          rw [hf'] at HPUT
          have H9 := hide h9
          have HST9 := hide hst9
          have HGL := hide (lt_of_some hk8)
          have HLT8 := hide (h8.lt r h8.self)
          have HRC := hide h8.cells
          have HBD : Hid (∀ w4, Below w8.drew.heap.size w8.drew w4 → Below w8.heap.size w8 w4) := fun w4 hb => ⟨hb.os, hb.tape, hb.output, hb.size, hb.block⟩
          obtain ⟨ad6, had6⟩ : ∃ ad, s6.ad = ad := ⟨_, rfl⟩
          rw [had6] at HS1 HPUT
          have HF' := hide hf'
          clear hown hbr gcell hrv hbv ht8 hk8 ha hsa h8 hst8 h9 hst9 hrow8 hadl c1 hput hab hmem had6 hf' hlt
          go_wp2
          clear gc1 gc3 gz3 hw8
          refine wp_region_noPanic ?_
          refine wp_region_T (S := fun wx => wx.cell? ⟨r, 1, none⟩ = some (.slice ad6 xs.length s6.c) ∧ wx.cell? ⟨g, 0, none⟩ = some (.string f.name) ∧ wx.cell? ⟨g, 1, none⟩ = some (.string Y) ∧ wx.cell? ⟨g, 2, none⟩ = some (.string f.safe) ∧ wx.cell? ⟨g, 3, none⟩ = some (.slice adv (dirtyI F').length capv)) 9 (by kernel_rfl) HS1.out (fun hHeld => ?_)
          refine tT 0 (some 141) (.pointer (some ⟨r, 0, none⟩)) rfl hHeld ?_
          simp only [Act.put, pA, pB, pC]
          refine tT 1 (some 142) (.pointer (some ⟨r, 0, none⟩)) rfl hHeld ?_
          simp only [Act.put, pA, pB, pC]
          refine tT 2 (some 143) (.pointer (some ⟨r, 0, none⟩)) rfl hHeld ?_
          simp only [Act.put, pA, pB, pC]
          refine tT 3 (some 144) (.pointer (some ⟨r, 1, none⟩)) rfl hHeld ?_
          simp only [Act.put, pA, pB, pC]
          refine tU 4 (some 145) (.slice ad6 xs.length s6.c) rfl (fun w hw => by have hw' := hw.1; first | rfl | (go_simp; done) | (go_simp; rfl)) hHeld ?_
          simp only [Act.put, pA, pB, pC]
          refine tU 5 (some 146) ((.agg #[.string f.name, .string Y, .string f.safe, .slice adv (dirtyI F').length capv])) rfl (fun w hw => by obtain ⟨_, q0, q1, q2, q3⟩ := hw; first | rfl | (go_simp; done) | (go_simp; rfl)) hHeld ?_
          simp only [Act.put, pA, pB, pC]
          refine readyT 6 (by kernel_rfl) rfl (by rfl) (fun K hK => ?_)
          go_simp
          refine HPUT.out.mono ?_
          rintro e w9 ⟨v, rfl, ho, hb⟩
          try go_wp2_with fail
          have hb9 := HBD.out _ hb
          have HS5 : Hid (w9.cell? ⟨r, 1, none⟩ = some (.slice ad6 xs.length s6.c) ∧ w9.cell? ⟨g, 0, none⟩ = some (.string f.name) ∧ w9.cell? ⟨g, 1, none⟩ = some (.string Y) ∧ w9.cell? ⟨g, 2, none⟩ = some (.string f.safe) ∧ w9.cell? ⟨g, 3, none⟩ = some (.slice adv (dirtyI F').length capv)) := by
            have e1 := hb9.block r HLT8.out
            have e2 := hb9.block g HGL.out
            exact ⟨(World.cell?_of_block e1).trans HS1.out.1, (World.cell?_of_block e2).trans HS1.out.2.1, (World.cell?_of_block e2).trans HS1.out.2.2.1, (World.cell?_of_block e2).trans HS1.out.2.2.2.1, (World.cell?_of_block e2).trans HS1.out.2.2.2.2⟩
          rw [← HF'.out] at ho
          have hfin := H9.out.relist HR6.out (Below.refl _ _) ho hb9 HMEM.out _ (putR_abs _ _)
          obtain ⟨ad9, cap9, rfl, _, _, _⟩ := own_at ho
          have HFI := hide hfin
          have g1 : w9.frozen? ⟨r, 1, none⟩ = false := frozen_of_row w9 r 1 _ _ (by rw [hb9.block r HLT8.out]; exact HRC.out)
          refine hK.out _ _ (fun _ => HS5.out) (fun hH => ?_)
          have hHeld := hH (by decide)
          clear hK K hH ho hb hb9 hfin
          have g2 := HS5.out.1
          refine readyT 7 (by kernel_rfl) rfl (by rfl) (fun K hK => ?_)
          go_simp
          refine hK.out _ _ (fun _ => hHeld) (fun hH => ?_)
          clear hHeld
          have hHeld := hH (by decide)
          clear hK K hH
          refine readyT 8 (by kernel_rfl) rfl (by rfl) (fun K hK => ?_)
          go_simp
          refine hK.out _ _ (fun _ => hHeld) (fun hH => ?_)
          clear hHeld
          have hHeld := hH (by decide)
          clear hK K hH
          refine readyT 9 (by kernel_rfl) rfl (by rfl) (fun K hK => ?_)
          go_simp
          refine hK.out _ _ (fun hx => absurd rfl hx) (fun hH => ?_)
          refine ⟨by kernel_rfl, ?_⟩
          refine NoPanic.normal ?_
          clear hHeld hK K hH
          clear g1 g2
          go_wp2
          go_ret
          obtain ⟨s', S', q1, q2, q3⟩ := HFI.out
          rw [HWE2.out]
          refine ⟨rfl, s', _, S', q1, ?_, HST9.out.trans q3⟩
          rw [HAB.out, ← HFS.out] at q2
          exact q2
    have dc : (cn == 0) = false := beq_eq_false_iff_ne.2 hc0
    have dc2 : (cn != 0) = true := by unfold bne; rw [dc]; rfl
    have HWE2 : Hid (A.write t.data.toList (an : Int) u.data.toList = (cn, { A with pow := P })) := by show _ = _; rw [HWE.out, if_pos hc0]
    have H6 := hide h6
    have HR6 := hide hr6
    clear href h6 hr6 ht6 hc0
    go_wp2
    go_ret
    rw [HWE2.out]
    exact ⟨rfl, s6, xs, S, H6.out, HR6.out, HS6.out⟩
end
end Go.Proofs.YtlkimfmilccanaaGreat
