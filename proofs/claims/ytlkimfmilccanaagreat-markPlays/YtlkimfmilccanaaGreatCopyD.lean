import Derived.Test.YtlkimfmilccanaaGreatShelf
import Derived.Sort.OwnSorted
import Derived.Lib.SliceRun
/-
  List, Dirty.
-/
namespace Go.Proofs.YtlkimfmilccanaaGreat
open Go.RowKit Go.Maps Go.WideMaps Go.Sort Go.Shelf
theorem bb_lt : ∀ a b : Key, bytesBefore a b = true → a < b
  | [], [], h => by simp [bytesBefore] at h
  | [], _ :: _, _ => List.nil_lt_cons _ _
  | _ :: _, [], h => by simp [bytesBefore] at h
  | a :: r, b :: s, h => by
    simp only [bytesBefore, Bool.or_eq_true, decide_eq_true_eq, Bool.and_eq_true, beq_iff_eq] at h
    rw [List.cons_lt_cons_iff]
    rcases h with h | ⟨rfl, h⟩
    · exact .inl h
    · exact .inr ⟨rfl, bb_lt r s h⟩
theorem sort_keys {fs : FList} (h : fs.Pairwise (fun p q => bytesBefore p.1 q.1 = true)) {ss : List Key} (hp : ss.Perm (fkeys fs)) : ss.mergeSort (fun x y => decide (x ≤ y)) = fkeys fs := by
  have tr : ∀ a b c : List UInt8, leB a b = true → leB b c = true → leB a c = true := fun a b c h1 h2 => by simp only [leB, decide_eq_true_eq] at *; exact List.le_trans h1 h2
  have to : ∀ a b : List UInt8, (leB a b || leB b a) = true := fun a b => by simp only [leB, Bool.or_eq_true, decide_eq_true_eq]; exact List.le_total a b
  refine List.Perm.eq_of_pairwise (le := fun a b => leB a b = true) (fun a b _ _ h1 h2 => ?_) (List.pairwise_mergeSort tr to ss) ?_ ((List.mergeSort_perm ss leB).trans hp)
  · simp only [leB, decide_eq_true_eq] at h1 h2
    exact List.le_antisymm h1 h2
  · refine (sorted_keys.1 h).imp (fun {a b} hab => ?_)
    simp only [leB, decide_eq_true_eq]
    exact List.le_of_lt (bb_lt a b hab)
theorem strKeys_fsD (con : Key → FC) (fs : FList) : strKeys (fsD con fs) = fkeys fs := by
  show List.map _ (List.map _ fs) = _
  rw [List.map_map]
  rfl
theorem info9 : (Tryz.prog.info? 9).map (fun i => (i.zero, i.size, i.bytes)) = some (some (.string ⟨#[]⟩), 1, 16) := by kernel_rfl
theorem encStr_of (s : ByteArray) : encStr s.data.toList = .string s := by simp [encStr]
theorem list_off {A : AD} (h : A.pow.off = true) : A.list = [] := by unfold AD.list; rw [if_pos h]
theorem list_on {A : AD} (h : A.pow.off = false) : A.list = fkeys A.fs := by unfold AD.list; rw [if_neg (by rw [h]; simp)]
set_option maxRecDepth 5000 in
set_option maxHeartbeats 1000000 in
theorem list_any (p m : Nat) (con : Key → FC) (A : AD) (w : World) (h : DiskAt w p m con A) :
    Calls Tryz.prog 33 #[.pointer (some ⟨p, 0, none⟩)] w fun e w' => ∃ v, e = .returned v ∧ w'.ownsRow w.heap.size 9 1 v A.list.length (A.list.map encStr) ∧ Below w.heap.size w w' := by
  have HH := hide h
  have c2 := h.c2
  cases hoff : A.pow.off with
  | true =>
    rw [hoff] at c2
    have HE := hide (list_off hoff)
    clear hoff h
    go_enter Tryz.func33, Tryz.ntmps33
    go_wp2
    go_ret
    refine ⟨.slice none 0 0, rfl, ?_, Below.refl _ _⟩
    rw [HE.out]
    exact World.ownsRow_nil _ _ _ _
  | false =>
    rw [hoff] at c2
    have HE := hide (list_on hoff)
    have c1 := h.c1
    have HO := hide h.files
    have hfew := h.ok.few
    have hps := lt_of_some h.cells
    have hms := h.files.lt
    obtain ⟨i0, hi, hz0, hz1, hz2⟩ := info_parts info9
    clear hoff h
    go_enter Tryz.func33, Tryz.ntmps33
    go_wp2_with (first | (at_range; refine wpList_range_files _ rfl _ rfl con A.fs m (by rfl) HO.out ?_; intro w0 hrg0 hb0 hlt0) | go_in)
    try go_frame
    clear c1 c2
    go_loopw [3] (fun v wr => ∃ left cnt ss, wr.ranges Tryz.prog 9 ptrElem m w.heap.size 16 (fsD con A.fs) left cnt ∧ ss.length + cnt ≤ 16 ∧ wr.ownsRow w.heap.size 9 1 v ss.length (ss.map encStr) ∧ Collected (fsD con A.fs) left ss ∧ Below w.heap.size w wr ∧ w.heap.size < wr.heap.size) (fun _ wr => wr.rangeLeft m w.heap.size)
    case atStart => exact ⟨_, _, [], hrg0, by rw [fsD_size]; simpa using hfew, World.ownsRow_nil _ _ _ _, Collected.start _, hb0, hlt0⟩
    case round =>
      clear hrg0 hb0 hlt0
      obtain ⟨left, cnt, ss, hrg, hsc, hrow, hC, hb, hlt⟩ := hrel
      have HR := hide hrg
      have HW := hide hrow
      have HC := hide hC
      have HB := hide hb
      clear hrg hrow hC hb
      go_wp2_with (first | (at_next; refine wpList_next_files _ rfl _ rfl con A.fs m w.heap.size left cnt (by rfl) HR.out ?_ ?_) | go_in)
      · intro hl0
        have hperm := HC.out.perm HR.out.owns law9 Tryz.underlying9 hl0
        rw [strKeys_fsD] at hperm
        have hsort := sort_keys HH.out.ok.sorted hperm
        have HS := hide hsort
        have hln : ss.length = (fkeys A.fs).length := hperm.length_eq
        have HLN := hide hln
        clear hperm hsort hln
        rcases HW.out.2 with ⟨hnil, h0⟩ | ⟨g, cap, cur, hv, hbase, hbk, h1, h2, h3, h4⟩
        · subst hnil
          have hs0 : ss = [] := List.length_eq_zero_iff.1 h0
          subst hs0
          have hcall := AnyM.slices_Sort_string_none Tryz.sortS none 0 wr
          change Calls _ 64 _ _ _ at hcall
          go_wp2_with fail
          refine hcall.mono ?_
          rintro e w5 ⟨rfl, rfl⟩
          clear hcall
          go_wp2
          go_ret
          refine ⟨.slice none 0 0, rfl, ?_, HB.out⟩
          have e0 : A.list = [] := by rw [HE.out]; exact List.length_eq_zero_iff.1 HLN.out.symm
          rw [e0]
          exact World.ownsRow_nil _ _ _ _
        · subst hv
          have hH : Holds encStr wr g 0 ss.toArray := holds_of_block hbk (by simpa using h4)
          have hgl : g < wr.heap.size := (Array.getElem?_eq_some_iff.1 hbk).1
          have hcall := AnyM.slices_Sort_string Tryz.sortS g 0 cap ss wr hH hgl (by omega)
          change Calls _ 64 _ _ _ at hcall
          go_wp2_with fail
          refine hcall.mono ?_
          rintro e w5 ⟨rfl, nn, os, rfl⟩
          clear hcall
          have hr5 := ownsRow_sorted (n := nn) (os := os) (ts := ss.mergeSort fun x y => decide (x ≤ y)) (by simp) hbase hbk h1 h2 h3
          have hb5 : Below w.heap.size w _ := HB.out.grown (grownBy_sorted (n := nn) (os := os) (g := g) (ss.mergeSort fun x y => decide (x ≤ y)).toArray) HB.out.size (fun j hj => by cases hj; exact hbase)
          generalize hW : grow (putRow encStr (Sort.ahead wr nn) g 0 (ss.mergeSort fun x y => decide (x ≤ y)).toArray) os = w6 at hr5 hb5 ⊢
          clear hW
          have H5 := hide hr5
          have B5 := hide hb5
          clear hr5 hb5
          go_wp2
          go_ret
          refine ⟨_, rfl, ?_, B5.out⟩
          have h5 := H5.out
          rw [HS.out] at h5
          rw [HE.out, ← HLN.out]
          exact h5
      · intro s F w2 cnt2 hF hs hlk hrg2 hlt2 hg2 hen
        have hrow2 := HW.out.kept hg2 (Or.inr (row_ne_iter HW.out HR.out).symm)
        have hat : ∀ zd, (fsD con A.fs).atKey (.string s.data.toList) zd = .lit (.int .i64 ((con s.data.toList).g : Int)) := fun zd => fsD_at hF zd
        have hC2 := HC.out.step hlk hat
        have hb2 := HB.out.grown hg2 (Nat.le_of_lt hlt) (fun j hj => by cases hj; exact Nat.le_refl _)
        have hsz2 := hg2.size
        have HW2 := hide hrow2
        have HC2 := hide hC2
        have HB2 := hide hb2
        have HR2 := hide hrg2
        have HL2 := hide hlt2
        clear hrow2 hC2 hb2 hrg2 hlt2 hg2 hF hat hlk
        go_wp2_with (first | (at_builtin; refine wpList_append_own _ rfl _ _ 80 rfl w.heap.size 9 i0 (.string ⟨#[]⟩) 1 16 Tryz.underlying80 hi hz0 hz1 hz2 rfl (by decide) _ _ _ rfl (HW2.out.alloc _) ⟨w2.heap.size, 0, none⟩ 1 1 [.string s] rfl rfl (cell_one_new _ _ _) (by simp [Value.oneCell']) (by unfold maxLen; omega) (by omega) (by simp; omega) ?_; intro v' w3 hown' hg3 hnil3; go_frame) | go_in)
        have hrg3 := (HR2.out.alloc _).kept hg3 (row_ne_low HW2.out hms) (row_ne_iter HW2.out HR2.out)
        have hb3 := (HB2.out.alloc (by omega) _).grown hg3 (by simp; omega) (fun j hj => (HW2.out.lt j hj).1)
        go_roundw
        case rel =>
          refine ⟨_, cnt2, ss ++ [s.data.toList], hrg3, by have := HL2.out; simp; omega, ?_, HC2.out, hb3, Nat.lt_of_lt_of_le (by omega : w.heap.size < w2.heap.size) (Nat.le_trans (by simp) hg3.size)⟩
          have := hown'
          rw [List.map_append, List.length_append, List.map_singleton, encStr_of]
          exact this
        case measure => rw [hrg3.left_eq, HR.out.left_eq]; exact HL2.out
/-! ### Dirty -/
theorem sortsI (m : Nat) : AnyZI.SortsIn Tryz.prog Tryz.sortedI_ren Fence.wide m :=
  ⟨fun blk off cap ss W hH hblk hsz => callsIn_wide.2 (AnyM.slices_Sort_int Tryz.sortI blk off cap ss W hH hblk hsz),
   fun p cap W => callsIn_wide.2 (AnyM.slices_Sort_int_none Tryz.sortI p cap W)⟩
theorem sort_ints {l : List Int} (h : l.Pairwise (fun a b => a ≤ b)) {ss : List Int} (hp : ss.Perm l) : ss.mergeSort (fun x y => decide (x ≤ y)) = l := by
  refine List.Perm.eq_of_pairwise (le := fun a b => (decide (a ≤ b)) = true) (fun a b _ _ h1 h2 => ?_) (List.pairwise_mergeSort (fun a b c h1 h2 => ?_) (fun a b => ?_) ss) ?_ ((List.mergeSort_perm ss _).trans hp)
  · simp only [decide_eq_true_eq] at h1 h2; omega
  · simp only [decide_eq_true_eq] at *; omega
  · simp only [Bool.or_eq_true, decide_eq_true_eq]; omega
  · exact h.imp (fun {a b} hab => decide_eq_true hab)
def dirtyI (F : AF) : List Int := F.dirtyL.map (fun s : Nat => (s : Int))
theorem dirtyI_sorted (F : AF) : (dirtyI F).Pairwise (fun a b => a ≤ b) := by
  unfold dirtyI
  rw [List.pairwise_map]
  refine (List.pairwise_lt_range.filter _).imp (fun {a b} h => by omega)
theorem intKeys_dirty (F : AF) : intKeys (dirtyD F) = dirtyI F := by
  show List.map _ (List.map _ F.dirtyL) = _
  rw [List.map_map]
  rfl
set_option maxRecDepth 5000 in
set_option maxHeartbeats 1000000 in
theorem sectors_any (c : FC) (F : AF) (w : World) (h : FileAt w c F) :
    Calls Tryz.prog 42 #[.pointer (some ⟨c.g, 0, none⟩)] w fun e w' => ∃ v, e = .returned v ∧ w'.ownsRow w.heap.size 3 1 v (dirtyI F).length ((dirtyI F).map (Value.int .i64)) ∧ Below w.heap.size w w' := by
  refine (callsIn_wide (n := 6)).1 ?_
  have hown := h.dirty
  have c2 := h.c2
  have hsz := dirty_size h.ok
  have hbl := hown.lt
  have hseq : SeqGives Fence.wide 2 Tryz.prog 112 #[.pointer (some ⟨w.heap.size, 0, none⟩)] encZ (fun ss => ss.Perm (intKeys (dirtyD F))) (Maps.size (dirtyD F)) (w.alloc (.cells #[.map (some c.dm)] 97)) :=
    AnyZI.keys_gives (ρ := Tryz.keysI_ren) { Tryz.keysI with } Fence.wide _ trivial rfl (by omega) w.heap.size c.dm 16384 (dirtyD F) _ (by simp) (by simp) (by
      obtain ⟨es, clock, hb, Ft, hs, hD⟩ := hown
      exact ⟨es, clock, (Below.heap_alloc _ _ c.dm hbl).trans hb, Ft, hs, hD⟩)
  have cK : ∀ mb W, CallsIn Fence.wide 5 Tryz.prog 78 #[.map mb] W fun e w' => e = .returned (.func (.func 112) #[] #[.pointer (some ⟨W.heap.size, 0, none⟩)]) ∧ w' = W.alloc (.cells #[.map mb] 97) := fun mb W => AnyZI.keys_in Tryz.keysI Fence.wide 5 trivial rfl mb W
  have cS := AnyZI.sorted_in Tryz.sortedI Fence.wide 5 trivial trivial trivial trivial rfl (by omega) (sortsI _) (enters_of Tryz.func111 (by kernel_rfl) rfl) 112 #[.pointer (some ⟨w.heap.size, 0, none⟩)] trivial (enters_of Tryz.func112 (by kernel_rfl) rfl) _ _ (by unfold maxLen; omega) (by omega) _ hseq
  change CallsIn _ _ Tryz.prog 77 _ _ _ at cS
  have hfK : Fence.wide.fn 78 := trivial
  have hfS : Fence.wide.fn 77 := trivial
  clear hseq hown
  refine callsIn_of_wp Tryz.func42 rfl trivial ?_ rfl
  simp only [Tryz.ntmps42, List.size_toArray, List.length_cons, List.length_nil, Nat.reduceAdd, Nat.reduceSub, Array.replicate_succ, Array.replicate_zero, List.push_toArray, List.append_toArray, List.nil_append, List.cons_append]
  gi_wp2_with (first
    | (gi_at_call 78; refine (cK _ _).mono ?_; rintro e w' ⟨rfl, rfl⟩)
    | (gi_at_call 77; refine cS.mono ?_; rintro e w' ⟨v, ss, rfl, hS, hrow, hnil, hb⟩))
  go_ret
  rw [intKeys_dirty] at hS
  have e1 := sort_ints (dirtyI_sorted F) hS
  have e2 : ss.length = (dirtyI F).length := hS.length_eq
  rw [e1, e2] at hrow
  exact ⟨v, rfl, ownsRow_base_a hrow (by simp), ((Below.refl _ w).alloc (Nat.le_refl _) _).trans (hb.mono (by simp))⟩
def AD.dirtyI (A : AD) (k : Key) : List Int := (A.dirty k).map (fun s : Nat => (s : Int))
set_option maxHeartbeats 400000 in
theorem dirty_any (p m : Nat) (con : Key → FC) (A : AD) (w : World) (h : DiskAt w p m con A) (s : ByteArray) (hs : s.size ≤ maxLen) :
    Calls Tryz.prog 14 #[.pointer (some ⟨p, 0, none⟩), .string s] w fun e w' => ∃ v, e = .returned v ∧ w'.ownsRow w.heap.size 3 1 v (A.dirtyI s.data.toList).length ((A.dirtyI s.data.toList).map (Value.int .i64)) ∧ Below w.heap.size w w' := by
  have HH := hide h
  clear h
  go_enter Tryz.func14, Tryz.ntmps14
  go_wp2_with fail
  refine (find_any p m con A _ HH.out s hs).mono ?_
  rintro e w1 ⟨rfl, ⟨ho, rfl⟩ | ⟨ho, hk, rfl⟩ | ⟨F, ho, hk, rfl⟩⟩
  · have HE : Hid (A.dirtyI s.data.toList = []) := by show _ = _; unfold AD.dirtyI AD.dirty; rw [if_pos ho]; rfl
    clear ho
    go_wp2
    go_ret
    refine ⟨.slice none 0 0, rfl, ?_, Below.refl _ _⟩
    rw [HE.out]
    exact World.ownsRow_nil _ _ _ _
  · have HE : Hid (A.dirtyI s.data.toList = []) := by show _ = _; unfold AD.dirtyI AD.dirty; rw [if_neg (by rw [ho]; simp), hk]; rfl
    clear ho hk
    go_wp2
    go_ret
    refine ⟨.slice none 0 0, rfl, ?_, Below.refl _ _⟩
    rw [HE.out]
    exact World.ownsRow_nil _ _ _ _
  · have HE : Hid (A.dirtyI s.data.toList = dirtyI F) := by show _ = _; unfold AD.dirtyI AD.dirty; rw [if_neg (by rw [ho]; simp), hk]; rfl
    have hf := HH.out.file _ F hk
    have hcall := sectors_any (con s.data.toList) F w1 hf
    clear ho hk hf
    go_wp2_with fail
    refine hcall.mono ?_
    rintro e w2 ⟨v, rfl, hrow, hb⟩
    have HR := hide hrow
    have HB := hide hb
    clear hrow hb hcall
    go_wp2
    go_ret
    rw [HE.out]
    exact ⟨v, rfl, HR.out, HB.out⟩
end Go.Proofs.YtlkimfmilccanaaGreat
/-
  Copy.
-/
namespace Go.Proofs.YtlkimfmilccanaaGreat
open Go.RowKit Go.Maps Go.WideMaps Go.Sort Go.Shelf
set_option linter.unusedSimpArgs false
set_option maxRecDepth 5000 in
set_option maxHeartbeats 400000 in
theorem cloneB_any (w : World) (v : Value) (l : List UInt8) (h : Bytes w 0 v l) (hl : l.length ≤ 140737488355328) :
    Calls Tryz.prog 84 #[v] w fun e w' => ∃ v', e = .returned v' ∧ Bytes w' 0 v' l ∧ (∀ b, v'.ownBlock = some b → w.heap.size ≤ b) ∧ Below w.heap.size w w' := by
  have hq : ∀ (w : World) (a : Option Addr) (n c n' c' : Nat), (binOp .eql 42 (.slice a n c) (.slice none n' c')).run Tryz.prog w = .ok (.bool a.isNone) w := fun w a n c n' c' => Lib.run_eql_slice_nil w _ _ a n c n' c' Tryz.underlying42
  rcases h.2 with ⟨rfl, hn⟩ | ⟨g, cap, cur, rfl, hb0, hgg, hnc, hcm, hcs, ht⟩
  · have e0 : l = [] := List.length_eq_zero_iff.1 hn
    subst e0
    clear h
    go_enter Tryz.func84, Tryz.ntmps84
    go_wp2
    go_ret
    exact ⟨.slice none 0 0, rfl, Bytes.nil _ _, by simp [Value.ownBlock], Below.refl _ _⟩
  · have hB1 : Bytes (w.alloc (.cells #[] 5)) 0 (.slice (some ⟨w.heap.size, 0, none⟩) 0 0) [] := World.ownsRow_made w #[] 0 (Nat.zero_le _) (Nat.zero_le _) rfl
    have hw1 : Bytes (w.alloc (.cells #[] 5)) 0 (.slice (some ⟨g, 0, none⟩) l.length cap) l := h.same (fun k hk => Below.heap_alloc w _ k (h.lt k hk))
    have hsrc := src_piece hw1 (Piece.whole hw1) (by omega)
    have e9 : (l.drop 0).take l.length = l := by rw [List.drop_zero, List.take_length]
    rw [e9] at hsrc
    have HB := hide hB1
    have HS := hide hsrc
    have hgl := lt_of_some hgg
    clear hB1 hw1 hsrc e9 h
    go_enter Tryz.func84, Tryz.ntmps84
    go_wp2_with (first | (at_builtin; refine wpList_append_src rfl _ _ 42 rfl 0 (.slice (some ⟨w.heap.size, 0, none⟩) 0 0) [] (by rfl) HB.out (.slice (some ⟨g, 0, none⟩) l.length cap) l (by rfl) HS.out (by simpa using hl) (Nat.zero_le _) ?_; intro ad2 n2 c2 w2 hB2 hM2) | go_in)
    go_ret
    refine ⟨.slice ad2 n2 c2, rfl, by simpa using hB2, fun b hb => ?_, ?_⟩
    · rcases hM2.own b hb with x | x
      · have : b = w.heap.size := by simpa [Value.ownBlock] using x.symm
        omega
      · simp at x; omega
    · exact ((Below.refl _ _).alloc (Nat.le_refl _) _).grown hM2.gr (by simp) (fun j hj => by simp [Value.ownBlock] at hj; omega)
-- left out in this seat: cloneM_any
/-- What the call has made so far stands in later worlds. -/
theorem Bytes.later {w w' : World} {v : Value} {l : List UInt8} (h : Bytes w 0 v l) (b : Below w.heap.size w w') : Bytes w' 0 v l := h.same (fun k hk => b.block k (h.lt k hk))
theorem FileAt.later {w w' : World} {c : FC} {F : AF} (h : FileAt w c F) (b : Below w.heap.size w w') : FileAt w' c F := h.same (fun k hk => b.block k (h.lt k hk))
theorem own_later {w w' : World} {b n : Nat} {D : DataW Unit} (h : w.ownsMap Tryz.prog 3 (unitElem (H := Unit)) b n D) (k : Below w.heap.size w w') : w'.ownsMap Tryz.prog 3 (unitElem (H := Unit)) b n D := ownsMap_same h (k.block b h.lt)
/-- The copy's struct. -/
theorem copy_file {w w4 : World} {F : AF} {v1 v2 : Value} {m3 : Nat} (hok : F.Ok) (h1 : Bytes w4 0 v1 F.seen) (o1 : ∀ b, v1.ownBlock = some b → w.heap.size ≤ b) (h2 : Bytes w4 0 v2 F.safe) (o2 : ∀ b, v2.ownBlock = some b → w.heap.size ≤ b) (h3 : w4.ownsMap Tryz.prog 3 (unitElem (H := Unit)) m3 16384 (dirtyD F)) (o3 : w.heap.size ≤ m3) (hne : ∀ b, v1.ownBlock = some b → v2.ownBlock ≠ some b) (hs : w.heap.size ≤ w4.heap.size) :
    ∃ c', c'.g = w4.heap.size ∧ FileAt (w4.alloc (.cells #[v1, v2, .map (some m3)] 99)) c' F ∧ ∀ b, c'.has b → w.heap.size ≤ b := by
  have e : ∀ b, b < w4.heap.size → (w4.alloc (.cells #[v1, v2, .map (some m3)] 99)).heap[b]? = w4.heap[b]? := fun b hb => Below.heap_alloc w4 _ b hb
  refine ⟨⟨w4.heap.size, m3, v1, v2⟩, rfl, ⟨hok, heap_alloc_new w4 _, h1.same (fun k hk => e k (h1.lt k hk)), h2.same (fun k hk => e k (h2.lt k hk)), ownsMap_same h3 (e m3 h3.lt), fun x => ?_, fun x => ?_, hne⟩, fun b hb => ?_⟩
  · have := h1.lt _ x; simp at this
  · have := h2.lt _ x; simp at this
  · rcases hb with rfl | rfl | hb | hb
    · exact hs
    · exact o3
    · exact o1 b hb
    · exact o2 b hb
-- left out in this seat: fcopy_any
end Go.Proofs.YtlkimfmilccanaaGreat
/-
  Copy of a disk.
-/
namespace Go.Proofs.YtlkimfmilccanaaGreat
open Go.RowKit Go.Maps Go.WideMaps
set_option linter.unusedSimpArgs false
set_option linter.unusedVariables false
theorem run_makeMap_hint (w : World) (k : Int) : (Instr.makeMap 82 (some (.int .i64 k))).run Tryz.prog w = .ok (.map (some w.heap.size)) (w.alloc (.map #[] 0)) := by
  simp [Instr.makeMap, run_underlying Tryz.underlying82, asInt, asIntOf, Result.andThen]
theorem fsD_canon (con : Key → FC) {fs : FList} (h : fs.Pairwise (fun p q => bytesBefore p.1 q.1 = true)) : Canon (fsD con fs) := by
  refine ⟨_, rfl, ?_, fun p hp => ?_⟩
  · rw [List.pairwise_map]
    exact h.imp (fun {a b} hab => hab)
  · obtain ⟨q, _, rfl⟩ := List.mem_map.1 hp
    exact trivial
theorem fsD_has_lit (con con' : Key → FC) (fs : FList) (kl : Lit) : Maps.has (fsD con fs) kl = Maps.has (fsD con' fs) kl := by
  unfold fsD
  rw [Maps.has_eq, Maps.has_eq, List.any_map, List.any_map]
  rfl
theorem nodup_sub {α : Type} [DecidableEq α] : ∀ {l m : List α}, l.Nodup → (∀ x ∈ l, x ∈ m) → l.length ≤ m.length
  | [], _, _, _ => Nat.zero_le _
  | a :: l, m, h, hs => by
    obtain ⟨h1, h2⟩ := List.nodup_cons.1 h
    have ha := hs a (by simp)
    have ih := nodup_sub (m := m.erase a) h2 (fun x hx => (List.mem_erase_of_ne (fun e : x = a => h1 (e ▸ hx))).2 (hs x (by simp [hx])))
    have hl := List.length_erase_of_mem ha
    have := List.length_pos_of_mem ha
    simp only [List.length_cons]
    omega
/-- What has been copied so far. -/
structure Copying (w : World) (m m2 : Nat) (con con2 : Key → FC) (fs : FList) (left : Lit → Bool) (D : DataW Unit) (wr : World) : Prop where
  own : ∃ n, n ≤ 16 ∧ wr.ownsMap Tryz.prog 9 ptrElem m2 n D
  has : ∀ kl, Maps.has D kl = (Maps.has (fsD con fs) kl && !left kl)
  at_ : ∀ k F z, fget fs k = some F → left (.string k) = false → D.atKey (.string k) z = .lit (.int .i64 ((con2 k).g : Int))
  file : ∀ k F, fget fs k = some F → left (.string k) = false → FileAt wr (con2 k) F
  new : ∀ k F, fget fs k = some F → left (.string k) = false → ∀ b, (con2 k).has b → w.heap.size ≤ b
  nm2 : ∀ k F, fget fs k = some F → left (.string k) = false → ¬ (con2 k).has m2
  apart : ∀ k F k' F', fget fs k = some F → left (.string k) = false → fget fs k' = some F' → left (.string k') = false → k ≠ k' → ∀ b, (con2 k).has b → ¬ (con2 k').has b
  le : w.heap.size ≤ m2
theorem Copying.start {w : World} {m : Nat} {con : Key → FC} {fs : FList} {wr : World} {m2 : Nat} (ho : wr.ownsMap Tryz.prog 9 ptrElem m2 0 (.map [])) (hm : w.heap.size ≤ m2) : Copying w m m2 con con fs (Maps.has (fsD con fs)) (.map []) wr := by
  have no : ∀ k F, fget fs k = some F → ¬ Maps.has (fsD con fs) (.string k) = false := fun k F hk h => by rw [fsD_has, hk] at h; cases h
  refine ⟨⟨0, by omega, ho⟩, fun kl => ?_, fun k F z hk hl => absurd hl (no k F hk), fun k F hk hl => absurd hl (no k F hk), fun k F hk hl => absurd hl (no k F hk), fun k F hk hl => absurd hl (no k F hk), fun k F k' F' hk hl => absurd hl (no k F hk), hm⟩
  cases Maps.has (fsD con fs) kl <;> rfl
theorem Copying.turn {w : World} {m m2 : Nat} {con con2 : Key → FC} {fs : FList} {left : Lit → Bool} {D : DataW Unit} {wr wx : World} (h : Copying w m m2 con con2 fs left D wr) (e : ∀ b, b < wr.heap.size → (b = m2 ∨ ∃ k F, fget fs k = some F ∧ left (.string k) = false ∧ (con2 k).has b) → wx.heap[b]? = wr.heap[b]?) : Copying w m m2 con con2 fs left D wx := by
  obtain ⟨n, hn, ho⟩ := h.own
  exact ⟨⟨n, hn, ownsMap_same ho (e m2 ho.lt (.inl rfl))⟩, h.has, h.at_, fun k F hk hl => (h.file k F hk hl).same (fun b hb => e b ((h.file k F hk hl).lt b hb) (.inr ⟨k, F, hk, hl, hb⟩)), h.new, h.nm2, h.apart, h.le⟩
theorem Copying.step {w : World} {m m2 : Nat} {con con2 : Key → FC} {fs : FList} {left : Lit → Bool} {D : DataW Unit} {wr wy : World} {k : Key} {F : AF} {c : FC} {n : Nat} (h : Copying w m m2 con con2 fs left D wr) (hk : fget fs k = some F) (hlk : left (.string k) = true) (hf : FileAt wy c F) (hnew : ∀ b, c.has b → wr.heap.size ≤ b) (hwr : w.heap.size ≤ wr.heap.size)
    (hs : fs.length ≤ 16) (hown : wy.ownsMap Tryz.prog 9 ptrElem m2 n (D.put (.string k) (.lit (.int .i64 (c.g : Int))))) (t : ∀ b, b < wr.heap.size → b ≠ m2 → wy.heap[b]? = wr.heap[b]?) (hsorted : fs.Pairwise (fun p q => bytesBefore p.1 q.1 = true)) :
    Copying w m m2 con (upd con2 k c) fs (fun z => left z && !z.sameKey (.string k)) (D.put (.string k) (.lit (.int .i64 (c.g : Int)))) wy := by
  obtain ⟨n0, hn0, ho0⟩ := h.own
  have hm2l := ho0.lt
  have lk : ∀ x : Key, (left (.string x) && !(Lit.string x).sameKey (.string k)) = false → x = k ∨ (x ≠ k ∧ left (.string x) = false) := fun x hx => by
    by_cases e : x = k
    · exact .inl e
    · refine .inr ⟨e, ?_⟩
      have : (Lit.string x).sameKey (.string k) = false := by simp [Lit.sameKey, e]
      rw [this] at hx
      simpa using hx
  have hisM : IsMap D := ho0.isMap
  have hhas : ∀ kl, Maps.has (D.put (.string k) (.lit (.int .i64 (c.g : Int)))) kl = (Maps.has (fsD con fs) kl && !(left kl && !kl.sameKey (.string k))) := fun kl => by
    by_cases e : kl = .string k
    · subst e
      rw [has_put_same hisM (by trivial), fsD_has, hk]
      simp [Lit.sameKey]
    · rw [has_put_other e, h.has kl]
      have : kl.sameKey (.string k) = false := sameKey_ne e
      rw [this]
      simp
  refine ⟨⟨16, Nat.le_refl _, ownsMap_exact hown ?_⟩, hhas, fun x G z hx hl => ?_, fun x G hx hl => ?_, fun x G hx hl b hb => ?_, fun x G hx hl hb => ?_, fun x G y G' hx hl hy hl' hxy b hb hb' => ?_, h.le⟩
  · -- its keys are names of files
    obtain ⟨es, hes, hel⟩ := ownsMap_elems hown
    have hc := hown.canon law9
    obtain ⟨es', he', hp', _⟩ := hc
    rw [he'] at hes
    have e1 : es' = es := by cases hes; rfl
    subst e1
    rw [he']
    show es'.length ≤ 16
    have hnd : (es'.map (·.1)).Nodup := by
      rw [List.Nodup, List.pairwise_map]
      exact apart_of_rising hp'
    have hsub : ∀ x ∈ es'.map (·.1), x ∈ fs.map (fun p => Lit.string p.1) := fun x hx => by
      obtain ⟨q, hq, rfl⟩ := List.mem_map.1 hx
      have hk1 : Maps.has (D.put (.string k) (.lit (.int .i64 (c.g : Int)))) q.1 = true := by
        rw [he']
        exact List.any_eq_true.2 ⟨q, hq, WideAt.sameKey_self (by obtain ⟨⟨v, hv⟩, _⟩ := hel q hq; exact law9.key hv)⟩
      rw [hhas] at hk1
      have hk2 := (Bool.and_eq_true_iff.1 hk1).1
      obtain ⟨y, hy, hyk⟩ := List.any_eq_true.1 hk2
      obtain ⟨f, hf', rfl⟩ := List.mem_map.1 hy
      have := WideAt.sameKey_eq hyk
      exact List.mem_map.2 ⟨f, hf', this⟩
    have := @nodup_sub Lit (fun a b => Classical.propDecidable (a = b)) _ _ hnd hsub
    simp at this
    omega
  · rcases lk x hl with rfl | ⟨e, hl⟩
    · rw [upd_same, atKey_put_same hisM (by trivial)]
    · rw [upd_ne _ _ e, atKey_put_other (fun q => e (by cases q; rfl))]
      exact h.at_ x G z hx hl
  · rcases lk x hl with rfl | ⟨e, hl⟩
    · rw [upd_same]
      have : F = G := by rw [hk] at hx; simpa using hx
      exact this ▸ hf
    · rw [upd_ne _ _ e]
      have hfx := h.file x G hx hl
      exact hfx.same (fun b hb => t b (hfx.lt b hb) (fun q => h.nm2 x G hx hl (q ▸ hb)))
  · rcases lk x hl with rfl | ⟨e, hl⟩
    · rw [upd_same] at hb; exact Nat.le_trans hwr (hnew b hb)
    · rw [upd_ne _ _ e] at hb; exact h.new x G hx hl b hb
  · rcases lk x hl with rfl | ⟨e, hl⟩
    · rw [upd_same] at hb; have := hnew _ hb; omega
    · rw [upd_ne _ _ e] at hb; exact h.nm2 x G hx hl hb
  · rcases lk x hl with ex | ⟨e, hl⟩
    · rcases lk y hl' with ey | ⟨e', hl'⟩
      · exact hxy (ex.trans ey.symm)
      · rw [ex, upd_same] at hb
        rw [upd_ne _ _ e'] at hb'
        have := hnew b hb
        have := (h.file y G' hy hl').lt b hb'
        omega
    · rw [upd_ne _ _ e] at hb
      rcases lk y hl' with ey | ⟨e', hl'⟩
      · rw [ey, upd_same] at hb'
        have := hnew b hb'
        have := (h.file x G hx hl).lt b hb
        omega
      · rw [upd_ne _ _ e'] at hb'
        exact h.apart x G y G' hx hl hy hl' hxy b hb hb'
theorem Copying.done {w : World} {m m2 : Nat} {con con2 : Key → FC} {fs : FList} {left : Lit → Bool} {D : DataW Unit} {wr : World} (h : Copying w m m2 con con2 fs left D wr) (hl : ∀ kl, left kl = false) (hs : fs.Pairwise (fun p q => bytesBefore p.1 q.1 = true)) : wr.ownsMap Tryz.prog 9 ptrElem m2 16 (fsD con2 fs) := by
  obtain ⟨n, hn, ho⟩ := h.own
  have e : D = fsD con2 fs := by
    refine Maps.ext (ho.canon law9) (fsD_canon con2 hs) (fun kl => ?_) (fun kl z hk => ?_)
    · rw [h.has kl, hl, fsD_has_lit con con2]; simp
    · rw [h.has kl, hl] at hk
      simp only [Bool.not_false, Bool.and_true] at hk
      obtain ⟨p, hp, hpk⟩ := List.any_eq_true.1 hk
      obtain ⟨q, hq, rfl⟩ := List.mem_map.1 hp
      have ek : kl = .string q.1 := (WideAt.sameKey_eq hpk).symm
      subst ek
      have hg := mem_fget (apart_of hs) hq
      rw [h.at_ q.1 q.2 z hg (hl _), fsD_at hg]
  subst e
  exact ho.mono hn
-- left out in this seat: copy_any
end Go.Proofs.YtlkimfmilccanaaGreat
