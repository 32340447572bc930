/-
  List, Dirty.
-/
import Derived.Test.YtlkimfmilccanaaGreatShelf
import Derived.Test.YtlkimfmilccanaaGreatShelf
import Derived.Sort.OwnSorted
namespace Go.Proofs.YtlkimfmilccanaaGreat
open Go.RowKit Go.Maps Go.WideMaps Go.Sort Go.Shelf
theorem bb_lt : ∀ a b : Key, bytesBefore a b = true → a < b
  | [], [], h => by simp [bytesBefore] at h
  | [], _ :: _, _ => List.nil_lt_cons _ _
  | _ :: _, [], h => by simp [bytesBefore] at h
  | a :: r, b :: s, h => by
    simp only [bytesBefore, Bool.or_eq_true, decide_eq_true_eq, Bool.and_eq_true, beq_iff_eq] at h
    rw [List.cons_lt_cons_iff]
    rcases h with h | ⟨rfl, h⟩
    · exact .inl h
    · exact .inr ⟨rfl, bb_lt r s h⟩
theorem sort_keys {fs : FList} (h : fs.Pairwise (fun p q => bytesBefore p.1 q.1 = true)) {ss : List Key} (hp : ss.Perm (fkeys fs)) : ss.mergeSort (fun x y => decide (x ≤ y)) = fkeys fs := by
  have tr : ∀ a b c : List UInt8, leB a b = true → leB b c = true → leB a c = true := fun a b c h1 h2 => by simp only [leB, decide_eq_true_eq] at *; exact List.le_trans h1 h2
  have to : ∀ a b : List UInt8, (leB a b || leB b a) = true := fun a b => by simp only [leB, Bool.or_eq_true, decide_eq_true_eq]; exact List.le_total a b
  refine List.Perm.eq_of_pairwise (le := fun a b => leB a b = true) (fun a b _ _ h1 h2 => ?_) (List.pairwise_mergeSort tr to ss) ?_ ((List.mergeSort_perm ss leB).trans hp)
  · simp only [leB, decide_eq_true_eq] at h1 h2
    exact List.le_antisymm h1 h2
  · refine (sorted_keys.1 h).imp (fun {a b} hab => ?_)
    simp only [leB, decide_eq_true_eq]
    exact List.le_of_lt (bb_lt a b hab)
theorem strKeys_fsD (con : Key → FC) (fs : FList) : strKeys (fsD con fs) = fkeys fs := by
  show List.map _ (List.map _ fs) = _
  rw [List.map_map]
  rfl
theorem info9 : (Tryz.prog.info? 9).map (fun i => (i.zero, i.size, i.bytes)) = some (some (.string ⟨#[]⟩), 1, 16) := by kernel_rfl
theorem encStr_of (s : ByteArray) : encStr s.data.toList = .string s := by simp [encStr]
theorem list_off {A : AD} (h : A.pow.off = true) : A.list = [] := by unfold AD.list; rw [if_pos h]
theorem list_on {A : AD} (h : A.pow.off = false) : A.list = fkeys A.fs := by unfold AD.list; rw [if_neg (by rw [h]; simp)]
set_option maxRecDepth 5000 in
set_option maxHeartbeats 1000000 in
theorem list_any (p m : Nat) (con : Key → FC) (A : AD) (w : World) (h : DiskAt w p m con A) :
    Calls Tryz.prog 33 #[.pointer (some ⟨p, 0, none⟩)] w fun e w' => ∃ v, e = .returned v ∧ w'.ownsRow w.heap.size 9 1 v A.list.length (A.list.map encStr) ∧ Below w.heap.size w w' := by
  have HH := hide h
  have c2 := h.c2
  cases hoff : A.pow.off with
  | true =>
    rw [hoff] at c2
    have HE := hide (list_off hoff)
    clear hoff h
    go_enter Tryz.func33, Tryz.ntmps33
    go_wp2
    go_ret
    refine ⟨.slice none 0 0, rfl, ?_, Below.refl _ _⟩
    rw [HE.out]
    exact World.ownsRow_nil _ _ _ _
  | false =>
    rw [hoff] at c2
    have HE := hide (list_on hoff)
    have c1 := h.c1
    have HO := hide h.files
    have hfew := h.ok.few
    have hps := lt_of_some h.cells
    have hms := h.files.lt
    obtain ⟨i0, hi, hz0, hz1, hz2⟩ := info_parts info9
    clear hoff h
    go_enter Tryz.func33, Tryz.ntmps33
    go_wp2_with (first | (at_range; refine wpList_range_files _ rfl _ rfl con A.fs m (by rfl) HO.out ?_; intro w0 hrg0 hb0 hlt0) | go_in)
    try go_frame
    clear c1 c2
    go_loopw [3] (fun v wr => ∃ left cnt ss, wr.ranges Tryz.prog 9 ptrElem m w.heap.size 16 (fsD con A.fs) left cnt ∧ ss.length + cnt ≤ 16 ∧ wr.ownsRow w.heap.size 9 1 v ss.length (ss.map encStr) ∧ Collected (fsD con A.fs) left ss ∧ Below w.heap.size w wr ∧ w.heap.size < wr.heap.size) (fun _ wr => wr.rangeLeft m w.heap.size)
    case atStart => exact ⟨_, _, [], hrg0, by rw [fsD_size]; simpa using hfew, World.ownsRow_nil _ _ _ _, Collected.start _, hb0, hlt0⟩
    case round =>
      clear hrg0 hb0 hlt0
      obtain ⟨left, cnt, ss, hrg, hsc, hrow, hC, hb, hlt⟩ := hrel
      have HR := hide hrg
      have HW := hide hrow
      have HC := hide hC
      have HB := hide hb
      clear hrg hrow hC hb
      go_wp2_with (first | (at_next; refine wpList_next_files _ rfl _ rfl con A.fs m w.heap.size left cnt (by rfl) HR.out ?_ ?_) | go_in)
      · intro hl0
        have hperm := HC.out.perm HR.out.owns law9 Tryz.underlying9 hl0
        rw [strKeys_fsD] at hperm
        have hsort := sort_keys HH.out.ok.sorted hperm
        have HS := hide hsort
        have hln : ss.length = (fkeys A.fs).length := hperm.length_eq
        have HLN := hide hln
        clear hperm hsort hln
        rcases HW.out.2 with ⟨hnil, h0⟩ | ⟨g, cap, cur, hv, hbase, hbk, h1, h2, h3, h4⟩
        · subst hnil
          have hs0 : ss = [] := List.length_eq_zero_iff.1 h0
          subst hs0
          have hcall := AnyM.slices_Sort_string_none Tryz.sortS none 0 wr
          change Calls _ 64 _ _ _ at hcall
          go_wp2_with fail
          refine hcall.mono ?_
          rintro e w5 ⟨rfl, rfl⟩
          clear hcall
          go_wp2
          go_ret
          refine ⟨.slice none 0 0, rfl, ?_, HB.out⟩
          have e0 : A.list = [] := by rw [HE.out]; exact List.length_eq_zero_iff.1 HLN.out.symm
          rw [e0]
          exact World.ownsRow_nil _ _ _ _
        · subst hv
          have hH : Holds encStr wr g 0 ss.toArray := holds_of_block hbk (by simpa using h4)
          have hgl : g < wr.heap.size := (Array.getElem?_eq_some_iff.1 hbk).1
          have hcall := AnyM.slices_Sort_string Tryz.sortS g 0 cap ss wr hH hgl (by omega)
          change Calls _ 64 _ _ _ at hcall
          go_wp2_with fail
          refine hcall.mono ?_
          rintro e w5 ⟨rfl, nn, os, rfl⟩
          clear hcall
          have hr5 := ownsRow_sorted (n := nn) (os := os) (ts := ss.mergeSort fun x y => decide (x ≤ y)) (by simp) hbase hbk h1 h2 h3
          have hb5 : Below w.heap.size w _ := HB.out.grown (grownBy_sorted (n := nn) (os := os) (g := g) (ss.mergeSort fun x y => decide (x ≤ y)).toArray) HB.out.size (fun j hj => by cases hj; exact hbase)
          generalize hW : grow (putRow encStr (Sort.ahead wr nn) g 0 (ss.mergeSort fun x y => decide (x ≤ y)).toArray) os = w6 at hr5 hb5 ⊢
          clear hW
          have H5 := hide hr5
          have B5 := hide hb5
          clear hr5 hb5
          go_wp2
          go_ret
          refine ⟨_, rfl, ?_, B5.out⟩
          have h5 := H5.out
          rw [HS.out] at h5
          rw [HE.out, ← HLN.out]
          exact h5
      · intro s F w2 cnt2 hF hs hlk hrg2 hlt2 hg2 hen
        have hrow2 := HW.out.kept hg2 (Or.inr (row_ne_iter HW.out HR.out).symm)
        have hat : ∀ zd, (fsD con A.fs).atKey (.string s.data.toList) zd = .lit (.int .i64 ((con s.data.toList).g : Int)) := fun zd => fsD_at hF zd
        have hC2 := HC.out.step hlk hat
        have hb2 := HB.out.grown hg2 (Nat.le_of_lt hlt) (fun j hj => by cases hj; exact Nat.le_refl _)
        have hsz2 := hg2.size
        have HW2 := hide hrow2
        have HC2 := hide hC2
        have HB2 := hide hb2
        have HR2 := hide hrg2
        have HL2 := hide hlt2
        clear hrow2 hC2 hb2 hrg2 hlt2 hg2 hF hat hlk
        go_wp2_with (first | (at_builtin; refine wpList_append_own _ rfl _ _ 80 rfl w.heap.size 9 i0 (.string ⟨#[]⟩) 1 16 Tryz.underlying80 hi hz0 hz1 hz2 rfl (by decide) _ _ _ rfl (HW2.out.alloc _) ⟨w2.heap.size, 0, none⟩ 1 1 [.string s] rfl rfl (cell_one_new _ _ _) (by simp [Value.oneCell']) (by unfold maxLen; omega) (by omega) (by simp; omega) ?_; intro v' w3 hown' hg3 hnil3; go_frame) | go_in)
        have hrg3 := (HR2.out.alloc _).kept hg3 (row_ne_low HW2.out hms) (row_ne_iter HW2.out HR2.out)
        have hb3 := (HB2.out.alloc (by omega) _).grown hg3 (by simp; omega) (fun j hj => (HW2.out.lt j hj).1)
        go_roundw
        case rel =>
          refine ⟨_, cnt2, ss ++ [s.data.toList], hrg3, by have := HL2.out; simp; omega, ?_, HC2.out, hb3, Nat.lt_of_lt_of_le (by omega : w.heap.size < w2.heap.size) (Nat.le_trans (by simp) hg3.size)⟩
          have := hown'
          rw [List.map_append, List.length_append, List.map_singleton, encStr_of]
          exact this
        case measure => rw [hrg3.left_eq, HR.out.left_eq]; exact HL2.out
/-! ### Dirty -/
theorem sortsI (m : Nat) : AnyZI.SortsIn Tryz.prog Tryz.sortedI_ren Fence.wide m :=
  ⟨fun blk off cap ss W hH hblk hsz => callsIn_wide.2 (AnyM.slices_Sort_int Tryz.sortI blk off cap ss W hH hblk hsz),
   fun p cap W => callsIn_wide.2 (AnyM.slices_Sort_int_none Tryz.sortI p cap W)⟩
theorem sort_ints {l : List Int} (h : l.Pairwise (fun a b => a ≤ b)) {ss : List Int} (hp : ss.Perm l) : ss.mergeSort (fun x y => decide (x ≤ y)) = l := by
  refine List.Perm.eq_of_pairwise (le := fun a b => (decide (a ≤ b)) = true) (fun a b _ _ h1 h2 => ?_) (List.pairwise_mergeSort (fun a b c h1 h2 => ?_) (fun a b => ?_) ss) ?_ ((List.mergeSort_perm ss _).trans hp)
  · simp only [decide_eq_true_eq] at h1 h2; omega
  · simp only [decide_eq_true_eq] at *; omega
  · simp only [Bool.or_eq_true, decide_eq_true_eq]; omega
  · exact h.imp (fun {a b} hab => decide_eq_true hab)
def dirtyI (F : AF) : List Int := F.dirtyL.map (fun s : Nat => (s : Int))
theorem dirtyI_sorted (F : AF) : (dirtyI F).Pairwise (fun a b => a ≤ b) := by
  unfold dirtyI
  rw [List.pairwise_map]
  refine (List.pairwise_lt_range.filter _).imp (fun {a b} h => by omega)
theorem intKeys_dirty (F : AF) : intKeys (dirtyD F) = dirtyI F := by
  show List.map _ (List.map _ F.dirtyL) = _
  rw [List.map_map]
  rfl
set_option maxRecDepth 5000 in
set_option maxHeartbeats 1000000 in
theorem sectors_any (c : FC) (F : AF) (w : World) (h : FileAt w c F) :
    Calls Tryz.prog 42 #[.pointer (some ⟨c.g, 0, none⟩)] w fun e w' => ∃ v, e = .returned v ∧ w'.ownsRow w.heap.size 3 1 v (dirtyI F).length ((dirtyI F).map (Value.int .i64)) ∧ Below w.heap.size w w' := by
  refine (callsIn_wide (n := 6)).1 ?_
  have hown := h.dirty
  have c2 := h.c2
  have hsz := dirty_size h.ok
  have hbl := hown.lt
  have hseq : SeqGives Fence.wide 2 Tryz.prog 112 #[.pointer (some ⟨w.heap.size, 0, none⟩)] encZ (fun ss => ss.Perm (intKeys (dirtyD F))) (Maps.size (dirtyD F)) (w.alloc (.cells #[.map (some c.dm)] 97)) :=
    AnyZI.keys_gives (ρ := Tryz.keysI_ren) { Tryz.keysI with } Fence.wide _ trivial rfl (by omega) w.heap.size c.dm 16384 (dirtyD F) _ (by simp) (by simp) (by
      obtain ⟨es, clock, hb, Ft, hs, hD⟩ := hown
      exact ⟨es, clock, (Below.heap_alloc _ _ c.dm hbl).trans hb, Ft, hs, hD⟩)
  have cK : ∀ mb W, CallsIn Fence.wide 5 Tryz.prog 78 #[.map mb] W fun e w' => e = .returned (.func (.func 112) #[] #[.pointer (some ⟨W.heap.size, 0, none⟩)]) ∧ w' = W.alloc (.cells #[.map mb] 97) := fun mb W => AnyZI.keys_in Tryz.keysI Fence.wide 5 trivial rfl mb W
  have cS := AnyZI.sorted_in Tryz.sortedI Fence.wide 5 trivial trivial trivial trivial rfl (by omega) (sortsI _) (enters_of Tryz.func111 (by kernel_rfl) rfl) 112 #[.pointer (some ⟨w.heap.size, 0, none⟩)] trivial (enters_of Tryz.func112 (by kernel_rfl) rfl) _ _ (by unfold maxLen; omega) (by omega) _ hseq
  change CallsIn _ _ Tryz.prog 77 _ _ _ at cS
  have hfK : Fence.wide.fn 78 := trivial
  have hfS : Fence.wide.fn 77 := trivial
  clear hseq hown
  refine callsIn_of_wp Tryz.func42 rfl trivial ?_ rfl
  simp only [Tryz.ntmps42, List.size_toArray, List.length_cons, List.length_nil, Nat.reduceAdd, Nat.reduceSub, Array.replicate_succ, Array.replicate_zero, List.push_toArray, List.append_toArray, List.nil_append, List.cons_append]
  gi_wp2_with (first
    | (gi_at_call 78; refine (cK _ _).mono ?_; rintro e w' ⟨rfl, rfl⟩)
    | (gi_at_call 77; refine cS.mono ?_; rintro e w' ⟨v, ss, rfl, hS, hrow, hnil, hb⟩))
  go_ret
  rw [intKeys_dirty] at hS
  have e1 := sort_ints (dirtyI_sorted F) hS
  have e2 : ss.length = (dirtyI F).length := hS.length_eq
  rw [e1, e2] at hrow
  exact ⟨v, rfl, ownsRow_base_a hrow (by simp), ((Below.refl _ w).alloc (Nat.le_refl _) _).trans (hb.mono (by simp))⟩
def AD.dirtyI (A : AD) (k : Key) : List Int := (A.dirty k).map (fun s : Nat => (s : Int))
set_option maxHeartbeats 400000 in
theorem dirty_any (p m : Nat) (con : Key → FC) (A : AD) (w : World) (h : DiskAt w p m con A) (s : ByteArray) (hs : s.size ≤ maxLen) :
    Calls Tryz.prog 14 #[.pointer (some ⟨p, 0, none⟩), .string s] w fun e w' => ∃ v, e = .returned v ∧ w'.ownsRow w.heap.size 3 1 v (A.dirtyI s.data.toList).length ((A.dirtyI s.data.toList).map (Value.int .i64)) ∧ Below w.heap.size w w' := by
  have HH := hide h
  clear h
  go_enter Tryz.func14, Tryz.ntmps14
  go_wp2_with fail
  refine (find_any p m con A _ HH.out s hs).mono ?_
  rintro e w1 ⟨rfl, ⟨ho, rfl⟩ | ⟨ho, hk, rfl⟩ | ⟨F, ho, hk, rfl⟩⟩
  · have HE : Hid (A.dirtyI s.data.toList = []) := by show _ = _; unfold AD.dirtyI AD.dirty; rw [if_pos ho]; rfl
    clear ho
    go_wp2
    go_ret
    refine ⟨.slice none 0 0, rfl, ?_, Below.refl _ _⟩
    rw [HE.out]
    exact World.ownsRow_nil _ _ _ _
  · have HE : Hid (A.dirtyI s.data.toList = []) := by show _ = _; unfold AD.dirtyI AD.dirty; rw [if_neg (by rw [ho]; simp), hk]; rfl
    clear ho hk
    go_wp2
    go_ret
    refine ⟨.slice none 0 0, rfl, ?_, Below.refl _ _⟩
    rw [HE.out]
    exact World.ownsRow_nil _ _ _ _
  · have HE : Hid (A.dirtyI s.data.toList = dirtyI F) := by show _ = _; unfold AD.dirtyI AD.dirty; rw [if_neg (by rw [ho]; simp), hk]; rfl
    have hf := HH.out.file _ F hk
    have hcall := sectors_any (con s.data.toList) F w1 hf
    clear ho hk hf
    go_wp2_with fail
    refine hcall.mono ?_
    rintro e w2 ⟨v, rfl, hrow, hb⟩
    have HR := hide hrow
    have HB := hide hb
    clear hrow hb hcall
    go_wp2
    go_ret
    rw [HE.out]
    exact ⟨v, rfl, HR.out, HB.out⟩
end Go.Proofs.YtlkimfmilccanaaGreat
