/-
  Copy.
-/
import Derived.Test.YtobfijpfdibccaaLists
import Derived.Lib.SliceRun
namespace Go.Proofs.Ytobfijpfdibccaa
open Go.RowKit Go.Maps Go.WideMaps Go.Sort Go.Shelf
set_option linter.unusedSimpArgs false
set_option maxRecDepth 5000 in
set_option maxHeartbeats 400000 in
theorem cloneB_any (w : World) (v : Value) (l : List UInt8) (h : Bytes w 0 v l) (hl : l.length ≤ 140737488355328) :
    Calls Try.prog 43 #[v] w fun e w' => ∃ v', e = .returned v' ∧ Bytes w' 0 v' l ∧ (∀ b, v'.ownBlock = some b → w.heap.size ≤ b) ∧ Below w.heap.size w w' := by
  have hq : ∀ (w : World) (a : Option Addr) (n c n' c' : Nat), (binOp .eql 49 (.slice a n c) (.slice none n' c')).run Try.prog w = .ok (.bool a.isNone) w := fun w a n c n' c' => Lib.run_eql_slice_nil w _ _ a n c n' c' Try.underlying49
  rcases h.2 with ⟨rfl, hn⟩ | ⟨g, cap, cur, rfl, hb0, hgg, hnc, hcm, hcs, ht⟩
  · have e0 : l = [] := List.length_eq_zero_iff.1 hn
    subst e0
    clear h
    go_enter Try.func43, Try.ntmps43
    go_wp2
    go_ret
    exact ⟨.slice none 0 0, rfl, Bytes.nil _ _, by simp [Value.ownBlock], Below.refl _ _⟩
  · have hB1 : Bytes (w.alloc (.cells #[] 5)) 0 (.slice (some ⟨w.heap.size, 0, none⟩) 0 0) [] := World.ownsRow_made w #[] 0 (Nat.zero_le _) (Nat.zero_le _) rfl
    have hw1 : Bytes (w.alloc (.cells #[] 5)) 0 (.slice (some ⟨g, 0, none⟩) l.length cap) l := h.same (fun k hk => Below.heap_alloc w _ k (h.lt k hk))
    have hsrc := src_piece hw1 (Piece.whole hw1) (by omega)
    have e9 : (l.drop 0).take l.length = l := by rw [List.drop_zero, List.take_length]
    rw [e9] at hsrc
    have HB := hide hB1
    have HS := hide hsrc
    have hgl := lt_of_some hgg
    clear hB1 hw1 hsrc e9 h
    go_enter Try.func43, Try.ntmps43
    go_wp2_with (first | (at_builtin; refine wpList_append_src rfl _ _ 49 rfl 0 (.slice (some ⟨w.heap.size, 0, none⟩) 0 0) [] (by rfl) HB.out (.slice (some ⟨g, 0, none⟩) l.length cap) l (by rfl) HS.out (by simpa using hl) (Nat.zero_le _) ?_; intro ad2 n2 c2 w2 hB2 hM2) | go_in)
    go_ret
    refine ⟨.slice ad2 n2 c2, rfl, by simpa using hB2, fun b hb => ?_, ?_⟩
    · rcases hM2.own b hb with x | x
      · have : b = w.heap.size := by simpa [Value.ownBlock] using x.symm
        omega
      · simp at x; omega
    · exact ((Below.refl _ _).alloc (Nat.le_refl _) _).grown hM2.gr (by simp) (fun j hj => by simp [Value.ownBlock] at hj; omega)
-- left out in this seat: cloneM_any
/-- What the call has made so far stands in later worlds. -/
theorem Bytes.later {w w' : World} {v : Value} {l : List UInt8} (h : Bytes w 0 v l) (b : Below w.heap.size w w') : Bytes w' 0 v l := h.same (fun k hk => b.block k (h.lt k hk))
theorem FileAt.later {w w' : World} {c : FC} {F : AF} (h : FileAt w c F) (b : Below w.heap.size w w') : FileAt w' c F := h.same (fun k hk => b.block k (h.lt k hk))
theorem own_later {w w' : World} {b n : Nat} {D : DataW Unit} (h : w.ownsMap Try.prog 3 (unitElem (H := Unit)) b n D) (k : Below w.heap.size w w') : w'.ownsMap Try.prog 3 (unitElem (H := Unit)) b n D := ownsMap_same h (k.block b h.lt)
/-- The copy's struct. -/
theorem copy_file {w w4 : World} {F : AF} {v1 v2 : Value} {m3 : Nat} (hok : F.Ok) (h1 : Bytes w4 0 v1 F.seen) (o1 : ∀ b, v1.ownBlock = some b → w.heap.size ≤ b) (h2 : Bytes w4 0 v2 F.safe) (o2 : ∀ b, v2.ownBlock = some b → w.heap.size ≤ b) (h3 : w4.ownsMap Try.prog 3 (unitElem (H := Unit)) m3 16384 (dirtyD F)) (o3 : w.heap.size ≤ m3) (hne : ∀ b, v1.ownBlock = some b → v2.ownBlock ≠ some b) (hs : w.heap.size ≤ w4.heap.size) :
    ∃ c', c'.g = w4.heap.size ∧ FileAt (w4.alloc (.cells #[v1, v2, .map (some m3)] 69)) c' F ∧ ∀ b, c'.has b → w.heap.size ≤ b := by
  have e : ∀ b, b < w4.heap.size → (w4.alloc (.cells #[v1, v2, .map (some m3)] 69)).heap[b]? = w4.heap[b]? := fun b hb => Below.heap_alloc w4 _ b hb
  refine ⟨⟨w4.heap.size, m3, v1, v2⟩, rfl, ⟨hok, heap_alloc_new w4 _, h1.same (fun k hk => e k (h1.lt k hk)), h2.same (fun k hk => e k (h2.lt k hk)), ownsMap_same h3 (e m3 h3.lt), fun x => ?_, fun x => ?_, hne⟩, fun b hb => ?_⟩
  · have := h1.lt _ x; simp at this
  · have := h2.lt _ x; simp at this
  · rcases hb with rfl | rfl | hb | hb
    · exact hs
    · exact o3
    · exact o1 b hb
    · exact o2 b hb
-- left out in this seat: fcopy_any
end Go.Proofs.Ytobfijpfdibccaa
