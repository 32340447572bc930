import Derived.Test.YtdffmmiegpndkaaGreatDoorCalls1
import Derived.Shelf.SortM.Plain
import Derived.Shelf.SortM.SortNone
import Derived.Shelf.SlIterI.Nil
import Derived.Ground.GgzProg
import Derived.Ground.SlgmProg
import Derived.Shelf.SlGeneric
import Derived.Test.YtdffmmiegpndkaaGreatDoorProg
import Derived.Sort.OwnSorted
import Derived.Lib.SliceRun
/-
  Rename.
-/
namespace Go.Proofs.YtdffmmiegpndkaaGreatDoor
open Go.RowKit Go.Maps Go.WideMaps
set_option linter.unusedSimpArgs false
theorem DStep.ren {w w' : World} {p m : Nat} {con : Key → FC} {A : AD} {k k' : Key} {F : AF} (h : DiskAt w p m con A) (hk : fget A.fs k = some F) (hn : nameOk k' = true) (t : Turn (fun b => b = m) w w') {n : Nat}
    (hm : w'.ownsMap Tryz.prog 9 ptrElem m n (((fsD con A.fs).del (.string k)).put (.string k') (.lit (.int .i64 ((con k).g : Int))))) :
    DStep p m con A w (upd con k' (con k)) { A with fs := fput (fdel A.fs k) k' F } w' := by
  have hfk : ∀ x G, fget (fput (fdel A.fs k) k' F) x = some G → (x = k' ∧ G = F) ∨ (x ≠ k' ∧ x ≠ k ∧ fget A.fs x = some G) := fun x G hx => by
    by_cases e : x = k'
    · subst e
      rw [fget_fput_same] at hx
      exact .inl ⟨rfl, by simpa using hx.symm⟩
    · rw [fget_fput_ne e] at hx
      by_cases e2 : x = k
      · subst e2; rw [fget_fdel_same] at hx; cases hx
      · rw [fget_fdel_ne e2] at hx
        exact .inr ⟨e, e2, hx⟩
  have hmem : ∀ q ∈ fput (fdel A.fs k) k' F, q = (k', F) ∨ q ∈ A.fs := fun q hq => by
    rcases mem_fins.1 hq with e | hq
    · exact .inl e
    · exact .inr (List.mem_filter.1 (List.mem_filter.1 hq).1).1
  have hlen : (fput (fdel A.fs k) k' F).length ≤ 16 := by
    have h1 := fput_length (fs := fdel A.fs k) (k := k') (F := F)
    have h2 := fdel_some_length hk
    have h3 := h.ok.few
    omega
  refine ⟨⟨⟨h.ok.c0, h.ok.c1, fput_sorted (fdel_sorted h.ok.sorted), fun q hq => ?_, hlen, fun q hq => ?_, ?_, h.ok.pow⟩, ?_, ?_, fun x G hx => ?_, fun x G hx => ?_, fun x G y G' hx hy hxy b hb hb' => ?_⟩, t.mono (fun _ hb => .inr (.inl hb)), fun b hb => ?_⟩
  · rcases hmem q hq with rfl | hq
    · exact hn
    · exact h.ok.names q hq
  · rcases hmem q hq with rfl | hq
    · exact (h.file k F hk).ok
    · exact h.ok.files q hq
  · have h1 := fused_fdel (apart_of h.ok.sorted) hk
    have h2 := fused_fdel_le (fs := fdel A.fs k) (k := k')
    have h3 := h.ok.space
    show (fused (fput (fdel A.fs k) k' F) : Int) ≤ A.cap
    unfold fput
    rw [fused_fins]
    simp only
    omega
  · rw [t.block p (lt_of_some h.cells) h.pm]; exact h.cells
  · rw [fsD_del] at hm
    have e := fsD_put (con := con) (con' := upd con k' (con k)) (fs := fdel A.fs k) (k := k') (F := F) (fun q _ hq => by rw [upd_ne _ _ hq])
    rw [upd_same] at e
    rw [e] at hm
    refine ownsMap_exact hm ?_
    rw [fsD_size]
    exact hlen
  · rcases hfk x G hx with ⟨rfl, rfl⟩ | ⟨e, _, hx⟩
    · rw [upd_same]
      exact (h.file k G hk).turn t (fun b hb e' => (h.pf k G hk).2 (e' ▸ hb))
    · rw [upd_ne _ _ e]
      exact (h.file x G hx).turn t (fun b hb e' => (h.pf x G hx).2 (e' ▸ hb))
  · rcases hfk x G hx with ⟨rfl, rfl⟩ | ⟨e, _, hx⟩
    · rw [upd_same]; exact h.pf k G hk
    · rw [upd_ne _ _ e]; exact h.pf x G hx
  · rcases hfk x G hx with ⟨ex, eG⟩ | ⟨e, e2, hx2⟩
    · rcases hfk y G' hy with ⟨e', _⟩ | ⟨e', e3, hy2⟩
      · exact hxy (ex.trans e'.symm)
      · rw [ex, upd_same] at hb
        rw [upd_ne _ _ e'] at hb'
        exact h.apart k F y G' hk hy2 (fun q => e3 q.symm) b hb hb'
    · rw [upd_ne _ _ e] at hb
      rcases hfk y G' hy with ⟨ey, _⟩ | ⟨e', e3, hy2⟩
      · rw [ey, upd_same] at hb'
        exact h.apart x G k F hx2 hk e2 b hb hb'
      · rw [upd_ne _ _ e'] at hb'
        exact h.apart x G y G' hx2 hy2 hxy b hb hb'
  · rcases hb with rfl | rfl | ⟨x, G, hx, hb⟩
    · exact .inl (.inl rfl)
    · exact .inl (.inr (.inl rfl))
    · rcases hfk x G hx with ⟨ex, _⟩ | ⟨e, _, hx⟩
      · rw [ex, upd_same] at hb
        exact .inl (.inr (.inr ⟨k, F, hk, hb⟩))
      · rw [upd_ne _ _ e] at hb
        exact .inl (.inr (.inr ⟨x, G, hx, hb⟩))
theorem rename_off {A : AD} {k k' : Key} (h : A.pow.off = true) : A.rename k k' = (9, A) := by unfold AD.rename; rw [if_pos h]
theorem rename_none {A : AD} {k k' : Key} (h : A.pow.off = false) (hk : fget A.fs k = none) : A.rename k k' = (5, A) := by unfold AD.rename; rw [if_neg (by rw [h]; simp), hk]
theorem rename_bad {A : AD} {k k' : Key} {F : AF} (h : A.pow.off = false) (hk : fget A.fs k = some F) (hc : nameOk k' = false) : A.rename k k' = (1, A) := by unfold AD.rename; rw [if_neg (by rw [h]; simp), hk]; simp only; rw [if_pos hc]
theorem rename_some {A : AD} {k k' : Key} {F : AF} (h : A.pow.off = false) (hk : fget A.fs k = some F) (hc : nameOk k' = true) : A.rename k k' = (0, { A with fs := fput (fdel A.fs k) k' F }) := by unfold AD.rename; rw [if_neg (by rw [h]; simp), hk]; simp only; rw [if_neg (by rw [hc]; simp)]
-- left out in this seat: rename_any
end Go.Proofs.YtdffmmiegpndkaaGreatDoor
/-
  DERIVED: THE SHELF's CONTRACTS AT THIS DUMP, IN PLAIN WORDS (tools/lay-plain.mjs out of 'YtdffmmiegpndkaaGreatDoorShelf0.lean', which tools/lay-shelf.mjs wrote): THE SAME DECLARATIONS UNDER THE SAME NAMES: 'import', 'namespace', 'open', 'def', 'theorem' AND NOTHING ELSE: no command of the shelf's: FOR A HAND-IN. Each laying: the table of numbers ('.._ren') and one theorem, a field a fact of the dump's own or the kernel's comparison; each contract: ONE APPLICATION.
-/
namespace Go.Proofs
open Go.Shelf
def Tryz.sortS_ren : Go.Shelf.Ren := ⟨fun | 6 => 76 | 8 => 80 | 9 => 95 | 19 => 107 | 20 => 108 | 21 => 119 | 22 => 120 | 23 => 121 | 24 => 122 | 25 => 123 | 26 => 124 | 27 => 125 | 28 => 126 | 29 => 127 | 36 => 148 | 31 => 134 | 32 => 135 | 37 => 149 | 38 => 150 | 39 => 151 | 41 => 163 | n => n, fun | 27 => 30 | 29 => 9 | 3 => 3 | 32 => 138 | 26 => 30 | 0 => 0 | 44 => 90 | 46 => 123 | 4 => 4 | 36 => 159 | 35 => 158 | 41 => 108 | 5 => 5 | 9 => 9 | 53 => 183 | 57 => 187 | 63 => 206 | 64 => 207 | n => n, fun | n => n⟩
theorem Tryz.sortS : Go.Proofs.SlLaysM.n6 Tryz.prog Tryz.sortS_ren := {
  mixed := by kernel_rfl
  f6 := ⟨Tryz.f76.name, by decide, Tryz.func76.trans (congrArg some (by kernel_rfl))⟩
  f8 := Tryz.func80.trans (congrArg some (by kernel_rfl))
  f9 := ⟨Tryz.f95.name, by decide, Tryz.func95.trans (congrArg some (by kernel_rfl))⟩
  f19 := Tryz.func107.trans (congrArg some (by kernel_rfl))
  f20 := Tryz.func108.trans (congrArg some (by kernel_rfl))
  f21 := ⟨Tryz.f119.name, by decide, Tryz.func119.trans (congrArg some (by kernel_rfl))⟩
  f22 := ⟨Tryz.f120.name, by decide, Tryz.func120.trans (congrArg some (by kernel_rfl))⟩
  f23 := ⟨Tryz.f121.name, by decide, Tryz.func121.trans (congrArg some (by kernel_rfl))⟩
  f24 := ⟨Tryz.f122.name, by decide, Tryz.func122.trans (congrArg some (by kernel_rfl))⟩
  f25 := ⟨Tryz.f123.name, by decide, Tryz.func123.trans (congrArg some (by kernel_rfl))⟩
  f26 := ⟨Tryz.f124.name, by decide, Tryz.func124.trans (congrArg some (by kernel_rfl))⟩
  f27 := ⟨Tryz.f125.name, by decide, Tryz.func125.trans (congrArg some (by kernel_rfl))⟩
  f28 := ⟨Tryz.f126.name, by decide, Tryz.func126.trans (congrArg some (by kernel_rfl))⟩
  f29 := ⟨Tryz.f127.name, by decide, Tryz.func127.trans (congrArg some (by kernel_rfl))⟩
  f31 := Tryz.func134.trans (congrArg some (by kernel_rfl))
  f32 := Tryz.func135.trans (congrArg some (by kernel_rfl))
  f36 := ⟨Tryz.f148.name, by decide, Tryz.func148.trans (congrArg some (by kernel_rfl))⟩
  f37 := ⟨Tryz.f149.name, by decide, Tryz.func149.trans (congrArg some (by kernel_rfl))⟩
  f38 := ⟨Tryz.f150.name, by decide, Tryz.func150.trans (congrArg some (by kernel_rfl))⟩
  f39 := ⟨Tryz.f151.name, by decide, Tryz.func151.trans (congrArg some (by kernel_rfl))⟩
  f41 := ⟨Tryz.f163.name, by decide, Tryz.func163.trans (congrArg some (by kernel_rfl))⟩
  t0 := Tryz.underlying0
  a0 := Tryz.isAgg0
  z0 := Tryz.sizeOf0
  v0 := Tryz.zeroValue0
  t3 := Tryz.underlying3
  a3 := Tryz.isAgg3
  z3 := Tryz.sizeOf3
  v3 := Tryz.zeroValue3
  t4 := Tryz.underlying4
  a4 := Tryz.isAgg4
  z4 := Tryz.sizeOf4
  v4 := Tryz.zeroValue4
  t5 := Tryz.underlying5
  a5 := Tryz.isAgg5
  z5 := Tryz.sizeOf5
  v5 := Tryz.zeroValue5
  t9 := Tryz.underlying9
  a9 := Tryz.isAgg9
  z9 := Tryz.sizeOf9
  v9 := Tryz.zeroValue9
  t26 := Tryz.underlying30
  a26 := Tryz.isAgg30
  z26 := Tryz.sizeOf30
  v26 := Tryz.zeroValue30
  t27 := Tryz.underlying30
  a27 := Tryz.isAgg30
  z27 := Tryz.sizeOf30
  v27 := Tryz.zeroValue30
  t29 := Tryz.underlying9
  a29 := Tryz.isAgg9
  z29 := Tryz.sizeOf9
  v29 := Tryz.zeroValue9
  t32 := Tryz.underlying138
  a32 := Tryz.isAgg138
  z32 := Tryz.sizeOf138
  v32 := Tryz.zeroValue138
  t35 := Tryz.underlying158
  a35 := Tryz.isAgg158
  z35 := Tryz.sizeOf158
  v35 := Tryz.zeroValue158
  t36 := Tryz.underlying159
  a36 := Tryz.isAgg159
  z36 := Tryz.sizeOf159
  v36 := Tryz.zeroValue159
  t41 := Tryz.underlying108
  a41 := Tryz.isAgg108
  z41 := Tryz.sizeOf108
  v41 := Tryz.zeroValue108
  t44 := Tryz.underlying90
  a44 := Tryz.isAgg90
  z44 := Tryz.sizeOf90
  v44 := Tryz.zeroValue90
  t46 := Tryz.underlying123
  a46 := Tryz.isAgg123
  z46 := Tryz.sizeOf123
  v46 := Tryz.zeroValue123
  t53 := Tryz.underlying183
  a53 := Tryz.isAgg183
  z53 := Tryz.sizeOf183
  v53 := Tryz.zeroValue183
  t57 := Tryz.underlying187
  a57 := Tryz.isAgg187
  z57 := Tryz.sizeOf187
  v57 := Tryz.zeroValue187
  t63 := Tryz.underlying206
  a63 := Tryz.isAgg206
  z63 := Tryz.sizeOf206
  v63 := Tryz.zeroValue206
  t64 := Tryz.underlying207
  a64 := Tryz.isAgg207
  z64 := Tryz.sizeOf207
  v64 := Tryz.zeroValue207 }
end Go.Proofs
/-
  List, Dirty.
-/
namespace Go.Proofs.YtdffmmiegpndkaaGreatDoor
open Go.RowKit Go.Maps Go.WideMaps Go.Sort Go.Shelf
theorem bb_lt : ∀ a b : Key, bytesBefore a b = true → a < b
  | [], [], h => by simp [bytesBefore] at h
  | [], _ :: _, _ => List.nil_lt_cons _ _
  | _ :: _, [], h => by simp [bytesBefore] at h
  | a :: r, b :: s, h => by
    simp only [bytesBefore, Bool.or_eq_true, decide_eq_true_eq, Bool.and_eq_true, beq_iff_eq] at h
    rw [List.cons_lt_cons_iff]
    rcases h with h | ⟨rfl, h⟩
    · exact .inl h
    · exact .inr ⟨rfl, bb_lt r s h⟩
theorem sort_keys {fs : FList} (h : fs.Pairwise (fun p q => bytesBefore p.1 q.1 = true)) {ss : List Key} (hp : ss.Perm (fkeys fs)) : ss.mergeSort (fun x y => decide (x ≤ y)) = fkeys fs := by
  have tr : ∀ a b c : List UInt8, leB a b = true → leB b c = true → leB a c = true := fun a b c h1 h2 => by simp only [leB, decide_eq_true_eq] at *; exact List.le_trans h1 h2
  have to : ∀ a b : List UInt8, (leB a b || leB b a) = true := fun a b => by simp only [leB, Bool.or_eq_true, decide_eq_true_eq]; exact List.le_total a b
  refine List.Perm.eq_of_pairwise (le := fun a b => leB a b = true) (fun a b _ _ h1 h2 => ?_) (List.pairwise_mergeSort tr to ss) ?_ ((List.mergeSort_perm ss leB).trans hp)
  · simp only [leB, decide_eq_true_eq] at h1 h2
    exact List.le_antisymm h1 h2
  · refine (sorted_keys.1 h).imp (fun {a b} hab => ?_)
    simp only [leB, decide_eq_true_eq]
    exact List.le_of_lt (bb_lt a b hab)
theorem strKeys_fsD (con : Key → FC) (fs : FList) : strKeys (fsD con fs) = fkeys fs := by
  show List.map _ (List.map _ fs) = _
  rw [List.map_map]
  rfl
theorem info9 : (Tryz.prog.info? 9).map (fun i => (i.zero, i.size, i.bytes)) = some (some (.string ⟨#[]⟩), 1, 16) := by kernel_rfl
theorem encStr_of (s : ByteArray) : encStr s.data.toList = .string s := by simp [encStr]
theorem list_off {A : AD} (h : A.pow.off = true) : A.list = [] := by unfold AD.list; rw [if_pos h]
theorem list_on {A : AD} (h : A.pow.off = false) : A.list = fkeys A.fs := by unfold AD.list; rw [if_neg (by rw [h]; simp)]
set_option maxRecDepth 5000 in
set_option maxHeartbeats 1000000 in
theorem list_any (p m : Nat) (con : Key → FC) (A : AD) (w : World) (h : DiskAt w p m con A) :
    Calls Tryz.prog 56 #[.pointer (some ⟨p, 0, none⟩)] w fun e w' => ∃ v, e = .returned v ∧ w'.ownsRow w.heap.size 9 1 v A.list.length (A.list.map encStr) ∧ Below w.heap.size w w' := by
  have HH := hide h
  have c2 := h.c2
  cases hoff : A.pow.off with
  | true =>
    rw [hoff] at c2
    have HE := hide (list_off hoff)
    clear hoff h
    go_enter Tryz.func56, Tryz.ntmps56
    go_wp2
    go_ret
    refine ⟨.slice none 0 0, rfl, ?_, Below.refl _ _⟩
    rw [HE.out]
    exact World.ownsRow_nil _ _ _ _
  | false =>
    rw [hoff] at c2
    have HE := hide (list_on hoff)
    have c1 := h.c1
    have HO := hide h.files
    have hfew := h.ok.few
    have hps := lt_of_some h.cells
    have hms := h.files.lt
    obtain ⟨i0, hi, hz0, hz1, hz2⟩ := info_parts info9
    clear hoff h
    go_enter Tryz.func56, Tryz.ntmps56
    go_wp2_with (first | (at_range; refine wpList_range_files _ rfl _ rfl con A.fs m (by rfl) HO.out ?_; intro w0 hrg0 hb0 hlt0) | go_in)
    try go_frame
    clear c1 c2
    go_loopw [3] (fun v wr => ∃ left cnt ss, wr.ranges Tryz.prog 9 ptrElem m w.heap.size 16 (fsD con A.fs) left cnt ∧ ss.length + cnt ≤ 16 ∧ wr.ownsRow w.heap.size 9 1 v ss.length (ss.map encStr) ∧ Collected (fsD con A.fs) left ss ∧ Below w.heap.size w wr ∧ w.heap.size < wr.heap.size) (fun _ wr => wr.rangeLeft m w.heap.size)
    case atStart => exact ⟨_, _, [], hrg0, by rw [fsD_size]; simpa using hfew, World.ownsRow_nil _ _ _ _, Collected.start _, hb0, hlt0⟩
    case round =>
      clear hrg0 hb0 hlt0
      obtain ⟨left, cnt, ss, hrg, hsc, hrow, hC, hb, hlt⟩ := hrel
      have HR := hide hrg
      have HW := hide hrow
      have HC := hide hC
      have HB := hide hb
      clear hrg hrow hC hb
      go_wp2_with (first | (at_next; refine wpList_next_files _ rfl _ rfl con A.fs m w.heap.size left cnt (by rfl) HR.out ?_ ?_) | go_in)
      · intro hl0
        have hperm := HC.out.perm HR.out.owns law9 Tryz.underlying9 hl0
        rw [strKeys_fsD] at hperm
        have hsort := sort_keys HH.out.ok.sorted hperm
        have HS := hide hsort
        have hln : ss.length = (fkeys A.fs).length := hperm.length_eq
        have HLN := hide hln
        clear hperm hsort hln
        rcases HW.out.2 with ⟨hnil, h0⟩ | ⟨g, cap, cur, hv, hbase, hbk, h1, h2, h3, h4⟩
        · subst hnil
          have hs0 : ss = [] := List.length_eq_zero_iff.1 h0
          subst hs0
          have hcall := AnyM.slices_Sort_string_none Tryz.sortS none 0 wr
          change Calls _ 76 _ _ _ at hcall
          go_wp2_with fail
          refine hcall.mono ?_
          rintro e w5 ⟨rfl, rfl⟩
          clear hcall
          go_wp2
          go_ret
          refine ⟨.slice none 0 0, rfl, ?_, HB.out⟩
          have e0 : A.list = [] := by rw [HE.out]; exact List.length_eq_zero_iff.1 HLN.out.symm
          rw [e0]
          exact World.ownsRow_nil _ _ _ _
        · subst hv
          have hH : Holds encStr wr g 0 ss.toArray := holds_of_block hbk (by simpa using h4)
          have hgl : g < wr.heap.size := (Array.getElem?_eq_some_iff.1 hbk).1
          have hcall := AnyM.slices_Sort_string Tryz.sortS g 0 cap ss wr hH hgl (by omega)
          change Calls _ 76 _ _ _ at hcall
          go_wp2_with fail
          refine hcall.mono ?_
          rintro e w5 ⟨rfl, nn, os, rfl⟩
          clear hcall
          have hr5 := ownsRow_sorted (n := nn) (os := os) (ts := ss.mergeSort fun x y => decide (x ≤ y)) (by simp) hbase hbk h1 h2 h3
          have hb5 : Below w.heap.size w _ := HB.out.grown (grownBy_sorted (n := nn) (os := os) (g := g) (ss.mergeSort fun x y => decide (x ≤ y)).toArray) HB.out.size (fun j hj => by cases hj; exact hbase)
          generalize hW : grow (putRow encStr (Sort.ahead wr nn) g 0 (ss.mergeSort fun x y => decide (x ≤ y)).toArray) os = w6 at hr5 hb5 ⊢
          clear hW
          have H5 := hide hr5
          have B5 := hide hb5
          clear hr5 hb5
          go_wp2
          go_ret
          refine ⟨_, rfl, ?_, B5.out⟩
          have h5 := H5.out
          rw [HS.out] at h5
          rw [HE.out, ← HLN.out]
          exact h5
      · intro s F w2 cnt2 hF hs hlk hrg2 hlt2 hg2 hen
        have hrow2 := HW.out.kept hg2 (Or.inr (row_ne_iter HW.out HR.out).symm)
        have hat : ∀ zd, (fsD con A.fs).atKey (.string s.data.toList) zd = .lit (.int .i64 ((con s.data.toList).g : Int)) := fun zd => fsD_at hF zd
        have hC2 := HC.out.step hlk hat
        have hb2 := HB.out.grown hg2 (Nat.le_of_lt hlt) (fun j hj => by cases hj; exact Nat.le_refl _)
        have hsz2 := hg2.size
        have HW2 := hide hrow2
        have HC2 := hide hC2
        have HB2 := hide hb2
        have HR2 := hide hrg2
        have HL2 := hide hlt2
        clear hrow2 hC2 hb2 hrg2 hlt2 hg2 hF hat hlk
        go_wp2_with (first | (at_builtin; refine wpList_append_own _ rfl _ _ 30 rfl w.heap.size 9 i0 (.string ⟨#[]⟩) 1 16 Tryz.underlying30 hi hz0 hz1 hz2 rfl (by decide) _ _ _ rfl (HW2.out.alloc _) ⟨w2.heap.size, 0, none⟩ 1 1 [.string s] rfl rfl (cell_one_new _ _ _) (by simp [Value.oneCell']) (by unfold maxLen; omega) (by omega) (by simp; omega) ?_; intro v' w3 hown' hg3 hnil3; go_frame) | go_in)
        have hrg3 := (HR2.out.alloc _).kept hg3 (row_ne_low HW2.out hms) (row_ne_iter HW2.out HR2.out)
        have hb3 := (HB2.out.alloc (by omega) _).grown hg3 (by simp; omega) (fun j hj => (HW2.out.lt j hj).1)
        go_roundw
        case rel =>
          refine ⟨_, cnt2, ss ++ [s.data.toList], hrg3, by have := HL2.out; simp; omega, ?_, HC2.out, hb3, Nat.lt_of_lt_of_le (by omega : w.heap.size < w2.heap.size) (Nat.le_trans (by simp) hg3.size)⟩
          have := hown'
          rw [List.map_append, List.length_append, List.map_singleton, encStr_of]
          exact this
        case measure => rw [hrg3.left_eq, HR.out.left_eq]; exact HL2.out
/-! ### Dirty -/
-- left out in this seat: sortsI
theorem sort_ints {l : List Int} (h : l.Pairwise (fun a b => a ≤ b)) {ss : List Int} (hp : ss.Perm l) : ss.mergeSort (fun x y => decide (x ≤ y)) = l := by
  refine List.Perm.eq_of_pairwise (le := fun a b => (decide (a ≤ b)) = true) (fun a b _ _ h1 h2 => ?_) (List.pairwise_mergeSort (fun a b c h1 h2 => ?_) (fun a b => ?_) ss) ?_ ((List.mergeSort_perm ss _).trans hp)
  · simp only [decide_eq_true_eq] at h1 h2; omega
  · simp only [decide_eq_true_eq] at *; omega
  · simp only [Bool.or_eq_true, decide_eq_true_eq]; omega
  · exact h.imp (fun {a b} hab => decide_eq_true hab)
def dirtyI (F : AF) : List Int := F.dirtyL.map (fun s : Nat => (s : Int))
theorem dirtyI_sorted (F : AF) : (dirtyI F).Pairwise (fun a b => a ≤ b) := by
  unfold dirtyI
  rw [List.pairwise_map]
  refine (List.pairwise_lt_range.filter _).imp (fun {a b} h => by omega)
theorem intKeys_dirty (F : AF) : intKeys (dirtyD F) = dirtyI F := by
  show List.map _ (List.map _ F.dirtyL) = _
  rw [List.map_map]
  rfl
-- left out in this seat: sectors_any
def AD.dirtyI (A : AD) (k : Key) : List Int := (A.dirty k).map (fun s : Nat => (s : Int))
-- left out in this seat: dirty_any
end Go.Proofs.YtdffmmiegpndkaaGreatDoor
/-
  Copy.
-/
namespace Go.Proofs.YtdffmmiegpndkaaGreatDoor
open Go.RowKit Go.Maps Go.WideMaps Go.Sort Go.Shelf
set_option linter.unusedSimpArgs false
set_option maxRecDepth 5000 in
set_option maxHeartbeats 400000 in
theorem cloneB_any (w : World) (v : Value) (l : List UInt8) (h : Bytes w 0 v l) (hl : l.length ≤ 140737488355328) :
    Calls Tryz.prog 54 #[v] w fun e w' => ∃ v', e = .returned v' ∧ Bytes w' 0 v' l ∧ (∀ b, v'.ownBlock = some b → w.heap.size ≤ b) ∧ Below w.heap.size w w' := by
  have hq : ∀ (w : World) (a : Option Addr) (n c n' c' : Nat), (binOp .eql 86 (.slice a n c) (.slice none n' c')).run Tryz.prog w = .ok (.bool a.isNone) w := fun w a n c n' c' => Lib.run_eql_slice_nil w _ _ a n c n' c' Tryz.underlying86
  rcases h.2 with ⟨rfl, hn⟩ | ⟨g, cap, cur, rfl, hb0, hgg, hnc, hcm, hcs, ht⟩
  · have e0 : l = [] := List.length_eq_zero_iff.1 hn
    subst e0
    clear h
    go_enter Tryz.func54, Tryz.ntmps54
    go_wp2
    go_ret
    exact ⟨.slice none 0 0, rfl, Bytes.nil _ _, by simp [Value.ownBlock], Below.refl _ _⟩
  · have hB1 : Bytes (w.alloc (.cells #[] 5)) 0 (.slice (some ⟨w.heap.size, 0, none⟩) 0 0) [] := World.ownsRow_made w #[] 0 (Nat.zero_le _) (Nat.zero_le _) rfl
    have hw1 : Bytes (w.alloc (.cells #[] 5)) 0 (.slice (some ⟨g, 0, none⟩) l.length cap) l := h.same (fun k hk => Below.heap_alloc w _ k (h.lt k hk))
    have hsrc := src_piece hw1 (Piece.whole hw1) (by omega)
    have e9 : (l.drop 0).take l.length = l := by rw [List.drop_zero, List.take_length]
    rw [e9] at hsrc
    have HB := hide hB1
    have HS := hide hsrc
    have hgl := lt_of_some hgg
    clear hB1 hw1 hsrc e9 h
    go_enter Tryz.func54, Tryz.ntmps54
    go_wp2_with (first | (at_builtin; refine wpList_append_src rfl _ _ 86 rfl 0 (.slice (some ⟨w.heap.size, 0, none⟩) 0 0) [] (by rfl) HB.out (.slice (some ⟨g, 0, none⟩) l.length cap) l (by rfl) HS.out (by simpa using hl) (Nat.zero_le _) ?_; intro ad2 n2 c2 w2 hB2 hM2) | go_in)
    go_ret
    refine ⟨.slice ad2 n2 c2, rfl, by simpa using hB2, fun b hb => ?_, ?_⟩
    · rcases hM2.own b hb with x | x
      · have : b = w.heap.size := by simpa [Value.ownBlock] using x.symm
        omega
      · simp at x; omega
    · exact ((Below.refl _ _).alloc (Nat.le_refl _) _).grown hM2.gr (by simp) (fun j hj => by simp [Value.ownBlock] at hj; omega)
-- left out in this seat: cloneM_any
/-- What the call has made so far stands in later worlds. -/
theorem Bytes.later {w w' : World} {v : Value} {l : List UInt8} (h : Bytes w 0 v l) (b : Below w.heap.size w w') : Bytes w' 0 v l := h.same (fun k hk => b.block k (h.lt k hk))
theorem FileAt.later {w w' : World} {c : FC} {F : AF} (h : FileAt w c F) (b : Below w.heap.size w w') : FileAt w' c F := h.same (fun k hk => b.block k (h.lt k hk))
theorem own_later {w w' : World} {b n : Nat} {D : DataW Unit} (h : w.ownsMap Tryz.prog 3 (unitElem (H := Unit)) b n D) (k : Below w.heap.size w w') : w'.ownsMap Tryz.prog 3 (unitElem (H := Unit)) b n D := ownsMap_same h (k.block b h.lt)
/-- The copy's struct. -/
theorem copy_file {w w4 : World} {F : AF} {v1 v2 : Value} {m3 : Nat} (hok : F.Ok) (h1 : Bytes w4 0 v1 F.seen) (o1 : ∀ b, v1.ownBlock = some b → w.heap.size ≤ b) (h2 : Bytes w4 0 v2 F.safe) (o2 : ∀ b, v2.ownBlock = some b → w.heap.size ≤ b) (h3 : w4.ownsMap Tryz.prog 3 (unitElem (H := Unit)) m3 16384 (dirtyD F)) (o3 : w.heap.size ≤ m3) (hne : ∀ b, v1.ownBlock = some b → v2.ownBlock ≠ some b) (hs : w.heap.size ≤ w4.heap.size) :
    ∃ c', c'.g = w4.heap.size ∧ FileAt (w4.alloc (.cells #[v1, v2, .map (some m3)] 102)) c' F ∧ ∀ b, c'.has b → w.heap.size ≤ b := by
  have e : ∀ b, b < w4.heap.size → (w4.alloc (.cells #[v1, v2, .map (some m3)] 102)).heap[b]? = w4.heap[b]? := fun b hb => Below.heap_alloc w4 _ b hb
  refine ⟨⟨w4.heap.size, m3, v1, v2⟩, rfl, ⟨hok, heap_alloc_new w4 _, h1.same (fun k hk => e k (h1.lt k hk)), h2.same (fun k hk => e k (h2.lt k hk)), ownsMap_same h3 (e m3 h3.lt), fun x => ?_, fun x => ?_, hne⟩, fun b hb => ?_⟩
  · have := h1.lt _ x; simp at this
  · have := h2.lt _ x; simp at this
  · rcases hb with rfl | rfl | hb | hb
    · exact hs
    · exact o3
    · exact o1 b hb
    · exact o2 b hb
-- left out in this seat: fcopy_any
end Go.Proofs.YtdffmmiegpndkaaGreatDoor
/-
  Copy of a disk.
-/
namespace Go.Proofs.YtdffmmiegpndkaaGreatDoor
open Go.RowKit Go.Maps Go.WideMaps
set_option linter.unusedSimpArgs false
set_option linter.unusedVariables false
theorem run_makeMap_hint (w : World) (k : Int) : (Instr.makeMap 44 (some (.int .i64 k))).run Tryz.prog w = .ok (.map (some w.heap.size)) (w.alloc (.map #[] 0)) := by
  simp [Instr.makeMap, run_underlying Tryz.underlying44, asInt, asIntOf, Result.andThen]
theorem fsD_canon (con : Key → FC) {fs : FList} (h : fs.Pairwise (fun p q => bytesBefore p.1 q.1 = true)) : Canon (fsD con fs) := by
  refine ⟨_, rfl, ?_, fun p hp => ?_⟩
  · rw [List.pairwise_map]
    exact h.imp (fun {a b} hab => hab)
  · obtain ⟨q, _, rfl⟩ := List.mem_map.1 hp
    exact trivial
theorem fsD_has_lit (con con' : Key → FC) (fs : FList) (kl : Lit) : Maps.has (fsD con fs) kl = Maps.has (fsD con' fs) kl := by
  unfold fsD
  rw [Maps.has_eq, Maps.has_eq, List.any_map, List.any_map]
  rfl
theorem nodup_sub {α : Type} [DecidableEq α] : ∀ {l m : List α}, l.Nodup → (∀ x ∈ l, x ∈ m) → l.length ≤ m.length
  | [], _, _, _ => Nat.zero_le _
  | a :: l, m, h, hs => by
    obtain ⟨h1, h2⟩ := List.nodup_cons.1 h
    have ha := hs a (by simp)
    have ih := nodup_sub (m := m.erase a) h2 (fun x hx => (List.mem_erase_of_ne (fun e : x = a => h1 (e ▸ hx))).2 (hs x (by simp [hx])))
    have hl := List.length_erase_of_mem ha
    have := List.length_pos_of_mem ha
    simp only [List.length_cons]
    omega
/-- What has been copied so far. -/
structure Copying (w : World) (m m2 : Nat) (con con2 : Key → FC) (fs : FList) (left : Lit → Bool) (D : DataW Unit) (wr : World) : Prop where
  own : ∃ n, n ≤ 16 ∧ wr.ownsMap Tryz.prog 9 ptrElem m2 n D
  has : ∀ kl, Maps.has D kl = (Maps.has (fsD con fs) kl && !left kl)
  at_ : ∀ k F z, fget fs k = some F → left (.string k) = false → D.atKey (.string k) z = .lit (.int .i64 ((con2 k).g : Int))
  file : ∀ k F, fget fs k = some F → left (.string k) = false → FileAt wr (con2 k) F
  new : ∀ k F, fget fs k = some F → left (.string k) = false → ∀ b, (con2 k).has b → w.heap.size ≤ b
  nm2 : ∀ k F, fget fs k = some F → left (.string k) = false → ¬ (con2 k).has m2
  apart : ∀ k F k' F', fget fs k = some F → left (.string k) = false → fget fs k' = some F' → left (.string k') = false → k ≠ k' → ∀ b, (con2 k).has b → ¬ (con2 k').has b
  le : w.heap.size ≤ m2
theorem Copying.start {w : World} {m : Nat} {con : Key → FC} {fs : FList} {wr : World} {m2 : Nat} (ho : wr.ownsMap Tryz.prog 9 ptrElem m2 0 (.map [])) (hm : w.heap.size ≤ m2) : Copying w m m2 con con fs (Maps.has (fsD con fs)) (.map []) wr := by
  have no : ∀ k F, fget fs k = some F → ¬ Maps.has (fsD con fs) (.string k) = false := fun k F hk h => by rw [fsD_has, hk] at h; cases h
  refine ⟨⟨0, by omega, ho⟩, fun kl => ?_, fun k F z hk hl => absurd hl (no k F hk), fun k F hk hl => absurd hl (no k F hk), fun k F hk hl => absurd hl (no k F hk), fun k F hk hl => absurd hl (no k F hk), fun k F k' F' hk hl => absurd hl (no k F hk), hm⟩
  cases Maps.has (fsD con fs) kl <;> rfl
theorem Copying.turn {w : World} {m m2 : Nat} {con con2 : Key → FC} {fs : FList} {left : Lit → Bool} {D : DataW Unit} {wr wx : World} (h : Copying w m m2 con con2 fs left D wr) (e : ∀ b, b < wr.heap.size → (b = m2 ∨ ∃ k F, fget fs k = some F ∧ left (.string k) = false ∧ (con2 k).has b) → wx.heap[b]? = wr.heap[b]?) : Copying w m m2 con con2 fs left D wx := by
  obtain ⟨n, hn, ho⟩ := h.own
  exact ⟨⟨n, hn, ownsMap_same ho (e m2 ho.lt (.inl rfl))⟩, h.has, h.at_, fun k F hk hl => (h.file k F hk hl).same (fun b hb => e b ((h.file k F hk hl).lt b hb) (.inr ⟨k, F, hk, hl, hb⟩)), h.new, h.nm2, h.apart, h.le⟩
theorem Copying.step {w : World} {m m2 : Nat} {con con2 : Key → FC} {fs : FList} {left : Lit → Bool} {D : DataW Unit} {wr wy : World} {k : Key} {F : AF} {c : FC} {n : Nat} (h : Copying w m m2 con con2 fs left D wr) (hk : fget fs k = some F) (hlk : left (.string k) = true) (hf : FileAt wy c F) (hnew : ∀ b, c.has b → wr.heap.size ≤ b) (hwr : w.heap.size ≤ wr.heap.size)
    (hs : fs.length ≤ 16) (hown : wy.ownsMap Tryz.prog 9 ptrElem m2 n (D.put (.string k) (.lit (.int .i64 (c.g : Int))))) (t : ∀ b, b < wr.heap.size → b ≠ m2 → wy.heap[b]? = wr.heap[b]?) (hsorted : fs.Pairwise (fun p q => bytesBefore p.1 q.1 = true)) :
    Copying w m m2 con (upd con2 k c) fs (fun z => left z && !z.sameKey (.string k)) (D.put (.string k) (.lit (.int .i64 (c.g : Int)))) wy := by
  obtain ⟨n0, hn0, ho0⟩ := h.own
  have hm2l := ho0.lt
  have lk : ∀ x : Key, (left (.string x) && !(Lit.string x).sameKey (.string k)) = false → x = k ∨ (x ≠ k ∧ left (.string x) = false) := fun x hx => by
    by_cases e : x = k
    · exact .inl e
    · refine .inr ⟨e, ?_⟩
      have : (Lit.string x).sameKey (.string k) = false := by simp [Lit.sameKey, e]
      rw [this] at hx
      simpa using hx
  have hisM : IsMap D := ho0.isMap
  have hhas : ∀ kl, Maps.has (D.put (.string k) (.lit (.int .i64 (c.g : Int)))) kl = (Maps.has (fsD con fs) kl && !(left kl && !kl.sameKey (.string k))) := fun kl => by
    by_cases e : kl = .string k
    · subst e
      rw [has_put_same hisM (by trivial), fsD_has, hk]
      simp [Lit.sameKey]
    · rw [has_put_other e, h.has kl]
      have : kl.sameKey (.string k) = false := sameKey_ne e
      rw [this]
      simp
  refine ⟨⟨16, Nat.le_refl _, ownsMap_exact hown ?_⟩, hhas, fun x G z hx hl => ?_, fun x G hx hl => ?_, fun x G hx hl b hb => ?_, fun x G hx hl hb => ?_, fun x G y G' hx hl hy hl' hxy b hb hb' => ?_, h.le⟩
  · -- its keys are names of files
    obtain ⟨es, hes, hel⟩ := ownsMap_elems hown
    have hc := hown.canon law9
    obtain ⟨es', he', hp', _⟩ := hc
    rw [he'] at hes
    have e1 : es' = es := by cases hes; rfl
    subst e1
    rw [he']
    show es'.length ≤ 16
    have hnd : (es'.map (·.1)).Nodup := by
      rw [List.Nodup, List.pairwise_map]
      exact apart_of_rising hp'
    have hsub : ∀ x ∈ es'.map (·.1), x ∈ fs.map (fun p => Lit.string p.1) := fun x hx => by
      obtain ⟨q, hq, rfl⟩ := List.mem_map.1 hx
      have hk1 : Maps.has (D.put (.string k) (.lit (.int .i64 (c.g : Int)))) q.1 = true := by
        rw [he']
        exact List.any_eq_true.2 ⟨q, hq, WideAt.sameKey_self (by obtain ⟨⟨v, hv⟩, _⟩ := hel q hq; exact law9.key hv)⟩
      rw [hhas] at hk1
      have hk2 := (Bool.and_eq_true_iff.1 hk1).1
      obtain ⟨y, hy, hyk⟩ := List.any_eq_true.1 hk2
      obtain ⟨f, hf', rfl⟩ := List.mem_map.1 hy
      have := WideAt.sameKey_eq hyk
      exact List.mem_map.2 ⟨f, hf', this⟩
    have := @nodup_sub Lit (fun a b => Classical.propDecidable (a = b)) _ _ hnd hsub
    simp at this
    omega
  · rcases lk x hl with rfl | ⟨e, hl⟩
    · rw [upd_same, atKey_put_same hisM (by trivial)]
    · rw [upd_ne _ _ e, atKey_put_other (fun q => e (by cases q; rfl))]
      exact h.at_ x G z hx hl
  · rcases lk x hl with rfl | ⟨e, hl⟩
    · rw [upd_same]
      have : F = G := by rw [hk] at hx; simpa using hx
      exact this ▸ hf
    · rw [upd_ne _ _ e]
      have hfx := h.file x G hx hl
      exact hfx.same (fun b hb => t b (hfx.lt b hb) (fun q => h.nm2 x G hx hl (q ▸ hb)))
  · rcases lk x hl with rfl | ⟨e, hl⟩
    · rw [upd_same] at hb; exact Nat.le_trans hwr (hnew b hb)
    · rw [upd_ne _ _ e] at hb; exact h.new x G hx hl b hb
  · rcases lk x hl with rfl | ⟨e, hl⟩
    · rw [upd_same] at hb; have := hnew _ hb; omega
    · rw [upd_ne _ _ e] at hb; exact h.nm2 x G hx hl hb
  · rcases lk x hl with ex | ⟨e, hl⟩
    · rcases lk y hl' with ey | ⟨e', hl'⟩
      · exact hxy (ex.trans ey.symm)
      · rw [ex, upd_same] at hb
        rw [upd_ne _ _ e'] at hb'
        have := hnew b hb
        have := (h.file y G' hy hl').lt b hb'
        omega
    · rw [upd_ne _ _ e] at hb
      rcases lk y hl' with ey | ⟨e', hl'⟩
      · rw [ey, upd_same] at hb'
        have := hnew b hb'
        have := (h.file x G hx hl).lt b hb
        omega
      · rw [upd_ne _ _ e'] at hb'
        exact h.apart x G y G' hx hl hy hl' hxy b hb hb'
theorem Copying.done {w : World} {m m2 : Nat} {con con2 : Key → FC} {fs : FList} {left : Lit → Bool} {D : DataW Unit} {wr : World} (h : Copying w m m2 con con2 fs left D wr) (hl : ∀ kl, left kl = false) (hs : fs.Pairwise (fun p q => bytesBefore p.1 q.1 = true)) : wr.ownsMap Tryz.prog 9 ptrElem m2 16 (fsD con2 fs) := by
  obtain ⟨n, hn, ho⟩ := h.own
  have e : D = fsD con2 fs := by
    refine Maps.ext (ho.canon law9) (fsD_canon con2 hs) (fun kl => ?_) (fun kl z hk => ?_)
    · rw [h.has kl, hl, fsD_has_lit con con2]; simp
    · rw [h.has kl, hl] at hk
      simp only [Bool.not_false, Bool.and_true] at hk
      obtain ⟨p, hp, hpk⟩ := List.any_eq_true.1 hk
      obtain ⟨q, hq, rfl⟩ := List.mem_map.1 hp
      have ek : kl = .string q.1 := (WideAt.sameKey_eq hpk).symm
      subst ek
      have hg := mem_fget (apart_of hs) hq
      rw [h.at_ q.1 q.2 z hg (hl _), fsD_at hg]
  subst e
  exact ho.mono hn
-- left out in this seat: copy_any
end Go.Proofs.YtdffmmiegpndkaaGreatDoor
