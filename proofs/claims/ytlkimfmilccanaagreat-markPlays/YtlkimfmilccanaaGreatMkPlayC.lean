/-
  (*Both).plays, kind by kind (printed by gen_play.py).
-/
import Derived.Test.YtlkimfmilccanaaGreatMkPlayD
namespace Go.Proofs.YtlkimfmilccanaaGreat
open Go.RowKit Go.Maps Go.WideMaps
set_option linter.unusedVariables false
set_option linter.unusedSimpArgs false
theorem raise_next {A : AD} {k : Key} {v : Int} {x : Nat} {n : Int} (hx : x ≤ 1) : (A.raiseM k v x n).2.1.2 ≤ 1 := by
  unfold AD.raiseM
  repeat' split
  all_goals (first | exact hx | (show 1 - x ≤ 1; omega))
set_option maxRecDepth 100000 in
set_option maxHeartbeats 40000000 in
theorem playE_0 {B : Nat} {w : World} {p r : Nat} {A : AD} {gb : Nat} {s0 s1 : PS} (h : Lies B w (PQ p r A A gb s0 s1 [])) (hx0 : xok s0) (hx1 : xok s1) (kd : Int) (e1 : (kd == 1) = false) (e2 : (kd == 2) = false) (e3 : (kd == 3) = false) (e4 : (kd == 4) = false) (e5 : (kd == 5) = false) (e6 : (kd == 6) = false) (e7 : (kd == 7) = false) (e8 : (kd == 8) = false) (n : Int) (T : ByteArray) (ad : Option Addr) (fates : List FT) (cap : Nat) :
    Calls Tryz.prog 30 #[.pointer (some ⟨gb, 0, none⟩), .agg #[.int .i64 kd, .bool false, .int .i64 n, .string T, .slice ad fates.length cap]] w fun e w' => e = .returned (.bool true) ∧ (∃ A' s0' s1', Lies B w' (PQ p r A' A' gb s0' s1' []) ∧ xok s0' ∧ xok s1') ∧ Below B w w' := by
  obtain ⟨go, hgo⟩ : ∃ g, w.heap.size = g := ⟨_, rfl⟩
  obtain ⟨w0, hw0⟩ : ∃ x, w.alloc (.cells #[.int .i64 kd, .bool false, .int .i64 n, .string T, .slice ad fates.length cap] 59) = x := ⟨_, rfl⟩
  obtain ⟨h0, hb0⟩ := h.box _ _ w0 hw0 go hgo
  obtain ⟨opC, hop⟩ : ∃ x : Item, Item.block go (.cells #[.int .i64 kd, .bool false, .int .i64 n, .string T, .slice ad fates.length cap] 59 (0, 0)) = x := ⟨_, rfl⟩
  have h0' : Lies B w0 (PQ p r A A gb s0 s1 [opC]) := by rw [← hop]; exact h0
  have HOK : Hid A.Ok := h.ok (i := 0) rfl
  obtain ⟨bC, hbC⟩ : ∃ x : Item, Item.block gb (.cells (bcells p r s0 s1) 75 (0, 0)) = x := ⟨_, rfl⟩
  have HC : Hid (∀ (W : World) (L' : List Item), L'[2]? = some bC → L'[7]? = some opC → Lies B W L' → W.cell? ⟨gb, 0, none⟩ = some (.pointer (some ⟨p, 0, none⟩)) ∧ W.cell? ⟨gb, 1, none⟩ = some (.pointer (some ⟨r, 0, none⟩)) ∧ W.cell? ⟨gb, 2, none⟩ = some (mvP s0) ∧ W.cell? ⟨gb, 4, none⟩ = some (qvP s0) ∧ W.cell? ⟨go, 1, none⟩ = some (.bool false) ∧ W.cell? ⟨go, 2, none⟩ = some (.int .i64 n)) := fun W L' h2 h7 h => by
    rw [← hop] at h7
    rw [← hbC] at h2
    have hc := block_at h h7
    have hd := block_at h h2
    refine ⟨?_, ?_, ?_, ?_, ?_, ?_⟩
    · rw [cell_of_row W gb 0 _ _ (0, 0) hd]; rfl
    · rw [cell_of_row W gb 1 _ _ (0, 0) hd]; rfl
    · rw [cell_of_row W gb 2 _ _ (0, 0) hd]; rfl
    · rw [cell_of_row W gb 4 _ _ (0, 0) hd]; rfl
    · rw [cell_of_row W go 1 _ _ (0, 0) hc]; rfl
    · rw [cell_of_row W go 2 _ _ (0, 0) hc]; rfl
  have z0 : w0.cell? ⟨go, 0, none⟩ = some (.int .i64 kd) := by
    rw [← hop] at h0'
    have hc := block_at (q := 7) h0' rfl
    rw [cell_of_row w0 go 0 _ _ (0, 0) hc]; rfl
  obtain ⟨y0, y1, y2, y3, z1, y5⟩ := HC.out _ _ (by rw [← hbC]; rfl) rfl h0'
  have H := hide h0'
  have HB := hide hb0
  have HX0 := hide hx0
  have HX1 := hide hx1
  clear h h0 h0' hb0 hx0 hx1 hop
  go_enter Tryz.func30, Tryz.ntmps30
  go_wp2
  go_ret
  exact ⟨rfl, ⟨A, s0, s1, Lies.drop1 H.out, HX0.out, HX1.out⟩, HB.out⟩
set_option maxRecDepth 100000 in
set_option maxHeartbeats 40000000 in
theorem playE_1 {B : Nat} {w : World} {p r : Nat} {A : AD} {gb : Nat} {s0 s1 : PS} (h : Lies B w (PQ p r A A gb s0 s1 [])) (hx0 : xok s0) (hx1 : xok s1) (kd : Int) (e1 : (kd == 1) = false) (e2 : (kd == 2) = false) (e3 : (kd == 3) = false) (e4 : (kd == 4) = false) (e5 : (kd == 5) = false) (e6 : (kd == 6) = false) (e7 : (kd == 7) = false) (e8 : (kd == 8) = false) (n : Int) (T : ByteArray) (ad : Option Addr) (fates : List FT) (cap : Nat) :
    Calls Tryz.prog 30 #[.pointer (some ⟨gb, 0, none⟩), .agg #[.int .i64 kd, .bool true, .int .i64 n, .string T, .slice ad fates.length cap]] w fun e w' => e = .returned (.bool true) ∧ (∃ A' s0' s1', Lies B w' (PQ p r A' A' gb s0' s1' []) ∧ xok s0' ∧ xok s1') ∧ Below B w w' := by
  obtain ⟨go, hgo⟩ : ∃ g, w.heap.size = g := ⟨_, rfl⟩
  obtain ⟨w0, hw0⟩ : ∃ x, w.alloc (.cells #[.int .i64 kd, .bool true, .int .i64 n, .string T, .slice ad fates.length cap] 59) = x := ⟨_, rfl⟩
  obtain ⟨h0, hb0⟩ := h.box _ _ w0 hw0 go hgo
  obtain ⟨opC, hop⟩ : ∃ x : Item, Item.block go (.cells #[.int .i64 kd, .bool true, .int .i64 n, .string T, .slice ad fates.length cap] 59 (0, 0)) = x := ⟨_, rfl⟩
  have h0' : Lies B w0 (PQ p r A A gb s0 s1 [opC]) := by rw [← hop]; exact h0
  have HOK : Hid A.Ok := h.ok (i := 0) rfl
  obtain ⟨bC, hbC⟩ : ∃ x : Item, Item.block gb (.cells (bcells p r s0 s1) 75 (0, 0)) = x := ⟨_, rfl⟩
  have HC : Hid (∀ (W : World) (L' : List Item), L'[2]? = some bC → L'[7]? = some opC → Lies B W L' → W.cell? ⟨gb, 0, none⟩ = some (.pointer (some ⟨p, 0, none⟩)) ∧ W.cell? ⟨gb, 1, none⟩ = some (.pointer (some ⟨r, 0, none⟩)) ∧ W.cell? ⟨gb, 2, none⟩ = some (mvP s0) ∧ W.cell? ⟨gb, 4, none⟩ = some (qvP s0) ∧ W.cell? ⟨go, 1, none⟩ = some (.bool true) ∧ W.cell? ⟨go, 2, none⟩ = some (.int .i64 n)) := fun W L' h2 h7 h => by
    rw [← hop] at h7
    rw [← hbC] at h2
    have hc := block_at h h7
    have hd := block_at h h2
    refine ⟨?_, ?_, ?_, ?_, ?_, ?_⟩
    · rw [cell_of_row W gb 0 _ _ (0, 0) hd]; rfl
    · rw [cell_of_row W gb 1 _ _ (0, 0) hd]; rfl
    · rw [cell_of_row W gb 2 _ _ (0, 0) hd]; rfl
    · rw [cell_of_row W gb 4 _ _ (0, 0) hd]; rfl
    · rw [cell_of_row W go 1 _ _ (0, 0) hc]; rfl
    · rw [cell_of_row W go 2 _ _ (0, 0) hc]; rfl
  have z0 : w0.cell? ⟨go, 0, none⟩ = some (.int .i64 kd) := by
    rw [← hop] at h0'
    have hc := block_at (q := 7) h0' rfl
    rw [cell_of_row w0 go 0 _ _ (0, 0) hc]; rfl
  obtain ⟨y0, y1, y2, y3, z1, y5⟩ := HC.out _ _ (by rw [← hbC]; rfl) rfl h0'
  have H := hide h0'
  have HB := hide hb0
  have HX0 := hide hx0
  have HX1 := hide hx1
  clear h h0 h0' hb0 hx0 hx1 hop
  go_enter Tryz.func30, Tryz.ntmps30
  go_wp2
  go_ret
  exact ⟨rfl, ⟨A, s0, s1, Lies.drop1 H.out, HX0.out, HX1.out⟩, HB.out⟩
set_option maxRecDepth 100000 in
set_option maxHeartbeats 40000000 in
theorem play2n_0 {B : Nat} {w : World} {p r : Nat} {A : AD} {gb : Nat} {s0 s1 : PS} (h : Lies B w (PQ p r A A gb s0 s1 [])) (hx0 : xok s0) (hx1 : xok s1) (hs : s0 = none) (n : Int) (T : ByteArray) (ad : Option Addr) (fates : List FT) (cap : Nat) :
    Calls Tryz.prog 30 #[.pointer (some ⟨gb, 0, none⟩), .agg #[.int .i64 2, .bool false, .int .i64 n, .string T, .slice ad fates.length cap]] w fun e w' => e = .returned (.bool true) ∧ (∃ A' s0' s1', Lies B w' (PQ p r A' A' gb s0' s1' []) ∧ xok s0' ∧ xok s1') ∧ Below B w w' := by
  obtain ⟨go, hgo⟩ : ∃ g, w.heap.size = g := ⟨_, rfl⟩
  obtain ⟨w0, hw0⟩ : ∃ x, w.alloc (.cells #[.int .i64 2, .bool false, .int .i64 n, .string T, .slice ad fates.length cap] 59) = x := ⟨_, rfl⟩
  obtain ⟨h0, hb0⟩ := h.box _ _ w0 hw0 go hgo
  obtain ⟨opC, hop⟩ : ∃ x : Item, Item.block go (.cells #[.int .i64 2, .bool false, .int .i64 n, .string T, .slice ad fates.length cap] 59 (0, 0)) = x := ⟨_, rfl⟩
  have h0' : Lies B w0 (PQ p r A A gb s0 s1 [opC]) := by rw [← hop]; exact h0
  have HOK : Hid A.Ok := h.ok (i := 0) rfl
  obtain ⟨bC, hbC⟩ : ∃ x : Item, Item.block gb (.cells (bcells p r s0 s1) 75 (0, 0)) = x := ⟨_, rfl⟩
  have HC : Hid (∀ (W : World) (L' : List Item), L'[2]? = some bC → L'[7]? = some opC → Lies B W L' → W.cell? ⟨gb, 0, none⟩ = some (.pointer (some ⟨p, 0, none⟩)) ∧ W.cell? ⟨gb, 1, none⟩ = some (.pointer (some ⟨r, 0, none⟩)) ∧ W.cell? ⟨gb, 2, none⟩ = some (.pointer none) ∧ W.cell? ⟨gb, 4, none⟩ = some (.pointer none) ∧ W.cell? ⟨go, 1, none⟩ = some (.bool false) ∧ W.cell? ⟨go, 2, none⟩ = some (.int .i64 n)) := fun W L' h2 h7 h => by
    rw [← hop] at h7
    rw [← hbC] at h2
    have hc := block_at h h7
    have hd := block_at h h2
    subst hs
    refine ⟨?_, ?_, ?_, ?_, ?_, ?_⟩
    · rw [cell_of_row W gb 0 _ _ (0, 0) hd]; rfl
    · rw [cell_of_row W gb 1 _ _ (0, 0) hd]; rfl
    · rw [cell_of_row W gb 2 _ _ (0, 0) hd]; rfl
    · rw [cell_of_row W gb 4 _ _ (0, 0) hd]; rfl
    · rw [cell_of_row W go 1 _ _ (0, 0) hc]; rfl
    · rw [cell_of_row W go 2 _ _ (0, 0) hc]; rfl
  have z0 : w0.cell? ⟨go, 0, none⟩ = some (.int .i64 2) := by
    rw [← hop] at h0'
    have hc := block_at (q := 7) h0' rfl
    rw [cell_of_row w0 go 0 _ _ (0, 0) hc]; rfl
  obtain ⟨y0, y1, y2, y3, z1, y5⟩ := HC.out _ _ (by rw [← hbC]; rfl) rfl h0'
  have H := hide h0'
  have HB := hide hb0
  have HX0 := hide hx0
  have HX1 := hide hx1
  clear h h0 h0' hb0 hx0 hx1 hop
  go_enter Tryz.func30, Tryz.ntmps30
  go_wp2
  go_ret
  exact ⟨rfl, ⟨A, s0, s1, Lies.drop1 H.out, HX0.out, HX1.out⟩, HB.out⟩
set_option maxRecDepth 100000 in
set_option maxHeartbeats 40000000 in
theorem play2n_1 {B : Nat} {w : World} {p r : Nat} {A : AD} {gb : Nat} {s0 s1 : PS} (h : Lies B w (PQ p r A A gb s0 s1 [])) (hx0 : xok s0) (hx1 : xok s1) (hs : s1 = none) (n : Int) (T : ByteArray) (ad : Option Addr) (fates : List FT) (cap : Nat) :
    Calls Tryz.prog 30 #[.pointer (some ⟨gb, 0, none⟩), .agg #[.int .i64 2, .bool true, .int .i64 n, .string T, .slice ad fates.length cap]] w fun e w' => e = .returned (.bool true) ∧ (∃ A' s0' s1', Lies B w' (PQ p r A' A' gb s0' s1' []) ∧ xok s0' ∧ xok s1') ∧ Below B w w' := by
  obtain ⟨go, hgo⟩ : ∃ g, w.heap.size = g := ⟨_, rfl⟩
  obtain ⟨w0, hw0⟩ : ∃ x, w.alloc (.cells #[.int .i64 2, .bool true, .int .i64 n, .string T, .slice ad fates.length cap] 59) = x := ⟨_, rfl⟩
  obtain ⟨h0, hb0⟩ := h.box _ _ w0 hw0 go hgo
  obtain ⟨opC, hop⟩ : ∃ x : Item, Item.block go (.cells #[.int .i64 2, .bool true, .int .i64 n, .string T, .slice ad fates.length cap] 59 (0, 0)) = x := ⟨_, rfl⟩
  have h0' : Lies B w0 (PQ p r A A gb s0 s1 [opC]) := by rw [← hop]; exact h0
  have HOK : Hid A.Ok := h.ok (i := 0) rfl
  obtain ⟨bC, hbC⟩ : ∃ x : Item, Item.block gb (.cells (bcells p r s0 s1) 75 (0, 0)) = x := ⟨_, rfl⟩
  have HC : Hid (∀ (W : World) (L' : List Item), L'[2]? = some bC → L'[7]? = some opC → Lies B W L' → W.cell? ⟨gb, 0, none⟩ = some (.pointer (some ⟨p, 0, none⟩)) ∧ W.cell? ⟨gb, 1, none⟩ = some (.pointer (some ⟨r, 0, none⟩)) ∧ W.cell? ⟨gb, 3, none⟩ = some (.pointer none) ∧ W.cell? ⟨gb, 5, none⟩ = some (.pointer none) ∧ W.cell? ⟨go, 1, none⟩ = some (.bool true) ∧ W.cell? ⟨go, 2, none⟩ = some (.int .i64 n)) := fun W L' h2 h7 h => by
    rw [← hop] at h7
    rw [← hbC] at h2
    have hc := block_at h h7
    have hd := block_at h h2
    subst hs
    refine ⟨?_, ?_, ?_, ?_, ?_, ?_⟩
    · rw [cell_of_row W gb 0 _ _ (0, 0) hd]; rfl
    · rw [cell_of_row W gb 1 _ _ (0, 0) hd]; rfl
    · rw [cell_of_row W gb 3 _ _ (0, 0) hd]; rfl
    · rw [cell_of_row W gb 5 _ _ (0, 0) hd]; rfl
    · rw [cell_of_row W go 1 _ _ (0, 0) hc]; rfl
    · rw [cell_of_row W go 2 _ _ (0, 0) hc]; rfl
  have z0 : w0.cell? ⟨go, 0, none⟩ = some (.int .i64 2) := by
    rw [← hop] at h0'
    have hc := block_at (q := 7) h0' rfl
    rw [cell_of_row w0 go 0 _ _ (0, 0) hc]; rfl
  obtain ⟨y0, y1, y2, y3, z1, y5⟩ := HC.out _ _ (by rw [← hbC]; rfl) rfl h0'
  have H := hide h0'
  have HB := hide hb0
  have HX0 := hide hx0
  have HX1 := hide hx1
  clear h h0 h0' hb0 hx0 hx1 hop
  go_enter Tryz.func30, Tryz.ntmps30
  go_wp2
  go_ret
  exact ⟨rfl, ⟨A, s0, s1, Lies.drop1 H.out, HX0.out, HX1.out⟩, HB.out⟩
set_option maxRecDepth 100000 in
set_option maxHeartbeats 40000000 in
theorem play2s_0 {B : Nat} {w : World} {p r : Nat} {A : AD} {gb : Nat} {s0 s1 : PS} (h : Lies B w (PQ p r A A gb s0 s1 [])) (hx0 : xok s0) (hx1 : xok s1) {g q : Nat} {v : Int} {x : Nat} (hs : s0 = some (g, q, v, x)) (n : Int) (T : ByteArray) (ad : Option Addr) (fates : List FT) (cap : Nat) :
    Calls Tryz.prog 30 #[.pointer (some ⟨gb, 0, none⟩), .agg #[.int .i64 2, .bool false, .int .i64 n, .string T, .slice ad fates.length cap]] w fun e w' => e = .returned (.bool true) ∧ (∃ A' s0' s1', Lies B w' (PQ p r A' A' gb s0' s1' []) ∧ xok s0' ∧ xok s1') ∧ Below B w w' := by
  obtain ⟨go, hgo⟩ : ∃ g, w.heap.size = g := ⟨_, rfl⟩
  obtain ⟨w0, hw0⟩ : ∃ x, w.alloc (.cells #[.int .i64 2, .bool false, .int .i64 n, .string T, .slice ad fates.length cap] 59) = x := ⟨_, rfl⟩
  obtain ⟨h0, hb0⟩ := h.box _ _ w0 hw0 go hgo
  obtain ⟨opC, hop⟩ : ∃ x : Item, Item.block go (.cells #[.int .i64 2, .bool false, .int .i64 n, .string T, .slice ad fates.length cap] 59 (0, 0)) = x := ⟨_, rfl⟩
  have h0' : Lies B w0 (PQ p r A A gb s0 s1 [opC]) := by rw [← hop]; exact h0
  have HOK : Hid A.Ok := h.ok (i := 0) rfl
  obtain ⟨bC, hbC⟩ : ∃ x : Item, Item.block gb (.cells (bcells p r s0 s1) 75 (0, 0)) = x := ⟨_, rfl⟩
  have HC : Hid (∀ (W : World) (L' : List Item), L'[2]? = some bC → L'[7]? = some opC → Lies B W L' → W.cell? ⟨gb, 0, none⟩ = some (.pointer (some ⟨p, 0, none⟩)) ∧ W.cell? ⟨gb, 1, none⟩ = some (.pointer (some ⟨r, 0, none⟩)) ∧ W.cell? ⟨gb, 2, none⟩ = some (.pointer (some ⟨g, 0, none⟩)) ∧ W.cell? ⟨gb, 4, none⟩ = some (.pointer (some ⟨q, 0, none⟩)) ∧ W.cell? ⟨go, 1, none⟩ = some (.bool false) ∧ W.cell? ⟨go, 2, none⟩ = some (.int .i64 n)) := fun W L' h2 h7 h => by
    rw [← hop] at h7
    rw [← hbC] at h2
    have hc := block_at h h7
    have hd := block_at h h2
    subst hs
    refine ⟨?_, ?_, ?_, ?_, ?_, ?_⟩
    · rw [cell_of_row W gb 0 _ _ (0, 0) hd]; rfl
    · rw [cell_of_row W gb 1 _ _ (0, 0) hd]; rfl
    · rw [cell_of_row W gb 2 _ _ (0, 0) hd]; rfl
    · rw [cell_of_row W gb 4 _ _ (0, 0) hd]; rfl
    · rw [cell_of_row W go 1 _ _ (0, 0) hc]; rfl
    · rw [cell_of_row W go 2 _ _ (0, 0) hc]; rfl
  have z0 : w0.cell? ⟨go, 0, none⟩ = some (.int .i64 2) := by
    rw [← hop] at h0'
    have hc := block_at (q := 7) h0' rfl
    rw [cell_of_row w0 go 0 _ _ (0, 0) hc]; rfl
  obtain ⟨y0, y1, y2, y3, z1, y5⟩ := HC.out _ _ (by rw [← hbC]; rfl) rfl h0'
  have H := hide h0'
  have HB := hide hb0
  have HX0 := hide hx0
  have HX1 := hide hx1
  have hxx : x ≤ 1 := hx0 _ hs
  have H2 : Hid ((PQ p r A A gb s0 s1 [opC])[2]? = some bC) := by rw [← hbC]; rfl
  obtain ⟨L0, hL0⟩ : ∃ L, PQ p r A A gb s0 s1 [opC] = L := ⟨_, rfl⟩
  obtain ⟨E, vx, A', hE⟩ : ∃ E y X, A.raiseM (nameT false).data.toList v x n = (E, y, X) := ⟨_, _, _, rfl⟩
  obtain ⟨L1, hL1⟩ : ∃ L, (L0.set 0 (.disk p A')).set 3 (.mkI 91 g p (nameT false) vx.1 vx.2) = L := ⟨_, rfl⟩
  obtain ⟨L2, hL2⟩ : ∃ L, (L1.set 1 (.ref r A')).set 4 (.mkI 145 q r (nameT false) vx.1 vx.2) = L := ⟨_, rfl⟩
  have i0 : L0[0]? = some (.disk p A) := by rw [← hL0]; rfl
  have im : L0[3]? = some (.mkI 91 g p (nameT false) v x) := by rw [← hL0]; unfold PQ; rw [hs]; rfl
  have i1 : L1[1]? = some (.ref r A) := by rw [← hL1, ← hL0]; rfl
  have iq : L1[4]? = some (.mkI 145 q r (nameT false) v x) := by rw [← hL1, ← hL0]; unfold PQ; rw [hs]; rfl
  have a2 : L0[2]? = some bC := by rw [← hL0, ← hbC]; rfl
  have a7 : L0[7]? = some opC := by rw [← hL0]; rfl
  have b2 : L1[2]? = some bC := by rw [← hL1, ← hL0, ← hbC]; rfl
  have b7 : L1[7]? = some opC := by rw [← hL1, ← hL0]; rfl
  have c2 : L2[2]? = some bC := by rw [← hL2, ← hL1, ← hL0, ← hbC]; rfl
  have c7 : L2[7]? = some opC := by rw [← hL2, ← hL1, ← hL0]; rfl
  have zn : (nameT false).size ≤ 1000 := by decide
  have hv : vx.2 ≤ 1 := by
    have e : (A.raiseM (nameT false).data.toList v x n).2.1 = vx := by rw [hE]
    rw [← e]
    exact raise_next hxx
  have HRC : Hid (∀ W, Lies B W L0 → Calls Tryz.prog 11 #[.pointer (some ⟨g, 0, none⟩), .int .i64 n] W fun e w' => e = .returned (.int .i64 E) ∧ Lies B w' L1 ∧ Below B W w') := fun W h => by rw [← hL1]; exact mraise_any h i0 im (by decide) zn hxx n (E, vx, A') hE
  have HRD : Hid (∀ W, Lies B W L1 → Calls Tryz.prog 53 #[.pointer (some ⟨q, 0, none⟩), .int .i64 n] W fun e w' => e = .returned (.int .i64 E) ∧ Lies B w' L2 ∧ Below B W w') := fun W h => by rw [← hL2]; exact draise_any h i1 iq (by decide) HOK.out zn hxx n (E, vx, A') hE
  have HEE : Hid ((E == E) = true) := by show _ = _; simp
  have HEND : Hid (∀ W, Lies B W L2 → ∃ A' s0' s1', Lies B W (PQ p r A' A' gb s0' s1' []) ∧ xok s0' ∧ xok s1') := fun W h => by
    refine ⟨A', some (g, q, vx.1, vx.2), s1, Lies.drop1 (x := opC) ?_, ?_, ?_⟩
    · rw [← hL2, ← hL1, ← hL0] at h
      unfold PQ bcells at h ⊢
      rw [hs] at h
      exact h
    · intro z hz; cases hz; exact hv
    · exact hx1
  rw [hL0] at H
  clear h h0 h0' hb0 hx0 hx1 hop hs hxx H2 hL0 hE hL1 hL2 i0 im i1 iq zn hv
  have A2 := hide a2
  have A7 := hide a7
  have B2 := hide b2
  have B7 := hide b7
  have C2 := hide c2
  have C7 := hide c7
  clear a2 a7 b2 b7 c2 c7
  go_enter Tryz.func30, Tryz.ntmps30
  go_wp2
  clear z0 z1 y0 y1 y2 y3 y5
  obtain ⟨V1, hV⟩ : ∃ x, w0.drew = x := ⟨_, rfl⟩
  have hv0 := H.out.same (w' := w0.drew) (Nat.le_refl _) (fun _ _ _ => rfl)
  rw [hV] at hv0
  have HVB : Hid (Below B w V1) := by rw [← hV]; exact HB.out.drew
  have HVL := hide hv0
  have HS0 := hide (HC.out _ _ A2.out A7.out hv0)
  have HV := hide hV
  clear hv0 hV H HB
  try go_wp2
  refine wp_region_noPanic ?_
  refine wp_region_held_drew (S := fun wx => wx.cell? ⟨gb, 0, none⟩ = some (.pointer (some ⟨p, 0, none⟩)) ∧ wx.cell? ⟨gb, 1, none⟩ = some (.pointer (some ⟨r, 0, none⟩)) ∧ wx.cell? ⟨gb, 2, none⟩ = some (.pointer (some ⟨g, 0, none⟩)) ∧ wx.cell? ⟨gb, 4, none⟩ = some (.pointer (some ⟨q, 0, none⟩)) ∧ wx.cell? ⟨go, 1, none⟩ = some (.bool false) ∧ wx.cell? ⟨go, 2, none⟩ = some (.int .i64 n)) (by kernel_rfl) (by rw [HV.out]; exact HS0.out) (fun hHeld => ?_)
  rw [HV.out] at hHeld ⊢
  clear HV HS0
  refine tK 0 (some 66) (.pointer (some ⟨gb, 0, none⟩)) rfl hHeld ?_
  simp only [Act.put, pA, pB, pC]
  refine tK 1 (some 67) (.int .i64 0) rfl hHeld ?_
  simp only [Act.put, pA, pB, pC]
  refine tK 2 (some 68) (.pointer (some ⟨gb, 0, none⟩)) rfl hHeld ?_
  simp only [Act.put, pA, pB, pC]
  refine tK 3 (some 69) (.pointer (some ⟨gb, 2, none⟩)) rfl hHeld ?_
  simp only [Act.put, pA, pB, pC]
  refine tK 4 (some 70) (.pointer (some ⟨gb, 2, none⟩)) rfl hHeld ?_
  simp only [Act.put, pA, pB, pC]
  refine tH 5 (some 71) (.pointer (some ⟨g, 0, none⟩)) rfl (fun w hw => by obtain ⟨hw0, hw1, hw2, hw3, hw4, hw5⟩ := hw; first | rfl | (go_simp; done) | (go_simp; rfl)) hHeld ?_
  simp only [Act.put, pA, pB, pC]
  refine tK 6 (some 72) (.pointer (some ⟨go, 2, none⟩)) rfl hHeld ?_
  simp only [Act.put, pA, pB, pC]
  refine tH 7 (some 73) (.int .i64 n) rfl (fun w hw => by obtain ⟨hw0, hw1, hw2, hw3, hw4, hw5⟩ := hw; first | rfl | (go_simp; done) | (go_simp; rfl)) hHeld ?_
  simp only [Act.put, pA, pB, pC]
  refine rdH 8 rfl (fun K hK => ?_)
  go_simp
  refine (HRC.out _ HVL.out).mono ?_
  rintro e wc1 ⟨rfl, h2, hb2⟩
  try go_wp2_with fail
  refine hK.out _ _ (HC.out _ _ B2.out B7.out h2) (fun hH => ?_)
  clear hK K hHeld
  have hHeld := hH
  clear hH
  have HB := hide (HVB.out.trans hb2)
  have H := hide h2
  clear h2 hb2 HVL HVB
  refine tK 9 (some 10) (.int .i64 E) rfl hHeld ?_
  simp only [Act.put, pA, pB, pC]
  refine ⟨by kernel_rfl, ?_⟩
  refine NoPanic.normal ?_
  clear hHeld
  obtain ⟨V2, hV⟩ : ∃ x, wc1.drew = x := ⟨_, rfl⟩
  have hv0 := H.out.same (w' := wc1.drew) (Nat.le_refl _) (fun _ _ _ => rfl)
  rw [hV] at hv0
  have HVB : Hid (Below B w V2) := by rw [← hV]; exact HB.out.drew
  have HVL := hide hv0
  have HS0 := hide (HC.out _ _ B2.out B7.out hv0)
  have HV := hide hV
  clear hv0 hV H HB
  try go_wp2
  refine wp_region_noPanic ?_
  refine wp_region_held_drew (S := fun wx => wx.cell? ⟨gb, 0, none⟩ = some (.pointer (some ⟨p, 0, none⟩)) ∧ wx.cell? ⟨gb, 1, none⟩ = some (.pointer (some ⟨r, 0, none⟩)) ∧ wx.cell? ⟨gb, 2, none⟩ = some (.pointer (some ⟨g, 0, none⟩)) ∧ wx.cell? ⟨gb, 4, none⟩ = some (.pointer (some ⟨q, 0, none⟩)) ∧ wx.cell? ⟨go, 1, none⟩ = some (.bool false) ∧ wx.cell? ⟨go, 2, none⟩ = some (.int .i64 n)) (by kernel_rfl) (by rw [HV.out]; exact HS0.out) (fun hHeld => ?_)
  rw [HV.out] at hHeld ⊢
  clear HV HS0
  refine tK 0 (some 75) (.int .i64 E) rfl hHeld ?_
  simp only [Act.put, pA, pB, pC]
  refine tK 1 (some 76) (.pointer (some ⟨gb, 0, none⟩)) rfl hHeld ?_
  simp only [Act.put, pA, pB, pC]
  refine tK 2 (some 77) (.int .i64 0) rfl hHeld ?_
  simp only [Act.put, pA, pB, pC]
  refine tK 3 (some 78) (.pointer (some ⟨gb, 0, none⟩)) rfl hHeld ?_
  simp only [Act.put, pA, pB, pC]
  refine tK 4 (some 79) (.pointer (some ⟨gb, 4, none⟩)) rfl hHeld ?_
  simp only [Act.put, pA, pB, pC]
  refine tK 5 (some 80) (.pointer (some ⟨gb, 4, none⟩)) rfl hHeld ?_
  simp only [Act.put, pA, pB, pC]
  refine tH 6 (some 81) (.pointer (some ⟨q, 0, none⟩)) rfl (fun w hw => by obtain ⟨hw0, hw1, hw2, hw3, hw4, hw5⟩ := hw; first | rfl | (go_simp; done) | (go_simp; rfl)) hHeld ?_
  simp only [Act.put, pA, pB, pC]
  refine tK 7 (some 82) (.pointer (some ⟨go, 2, none⟩)) rfl hHeld ?_
  simp only [Act.put, pA, pB, pC]
  refine tH 8 (some 83) (.int .i64 n) rfl (fun w hw => by obtain ⟨hw0, hw1, hw2, hw3, hw4, hw5⟩ := hw; first | rfl | (go_simp; done) | (go_simp; rfl)) hHeld ?_
  simp only [Act.put, pA, pB, pC]
  refine rdH 9 rfl (fun K hK => ?_)
  go_simp
  refine (HRD.out _ HVL.out).mono ?_
  rintro e wc2 ⟨rfl, h2, hb2⟩
  try go_wp2_with fail
  refine hK.out _ _ (HC.out _ _ C2.out C7.out h2) (fun hH => ?_)
  clear hK K hHeld
  have hHeld := hH
  clear hH
  have HB := hide (HVB.out.trans hb2)
  have H := hide h2
  clear h2 hb2 HVL HVB
  refine tH 10 (some 85) (.bool true) rfl (fun w hw => by have := HEE.out; first | rfl | (go_simp; done) | (go_simp; rfl)) hHeld ?_
  simp only [Act.put, pA, pB, pC]
  refine tK 11 (some 4) (.bool true) rfl hHeld ?_
  simp only [Act.put, pA, pB, pC]
  refine ⟨by kernel_rfl, ?_⟩
  refine NoPanic.normal ?_
  clear hHeld
  clear HC
  go_wp2
  go_ret
  exact ⟨rfl, HEND.out _ H.out, HB.out⟩
set_option maxRecDepth 100000 in
set_option maxHeartbeats 40000000 in
theorem play2s_1 {B : Nat} {w : World} {p r : Nat} {A : AD} {gb : Nat} {s0 s1 : PS} (h : Lies B w (PQ p r A A gb s0 s1 [])) (hx0 : xok s0) (hx1 : xok s1) {g q : Nat} {v : Int} {x : Nat} (hs : s1 = some (g, q, v, x)) (n : Int) (T : ByteArray) (ad : Option Addr) (fates : List FT) (cap : Nat) :
    Calls Tryz.prog 30 #[.pointer (some ⟨gb, 0, none⟩), .agg #[.int .i64 2, .bool true, .int .i64 n, .string T, .slice ad fates.length cap]] w fun e w' => e = .returned (.bool true) ∧ (∃ A' s0' s1', Lies B w' (PQ p r A' A' gb s0' s1' []) ∧ xok s0' ∧ xok s1') ∧ Below B w w' := by
  obtain ⟨go, hgo⟩ : ∃ g, w.heap.size = g := ⟨_, rfl⟩
  obtain ⟨w0, hw0⟩ : ∃ x, w.alloc (.cells #[.int .i64 2, .bool true, .int .i64 n, .string T, .slice ad fates.length cap] 59) = x := ⟨_, rfl⟩
  obtain ⟨h0, hb0⟩ := h.box _ _ w0 hw0 go hgo
  obtain ⟨opC, hop⟩ : ∃ x : Item, Item.block go (.cells #[.int .i64 2, .bool true, .int .i64 n, .string T, .slice ad fates.length cap] 59 (0, 0)) = x := ⟨_, rfl⟩
  have h0' : Lies B w0 (PQ p r A A gb s0 s1 [opC]) := by rw [← hop]; exact h0
  have HOK : Hid A.Ok := h.ok (i := 0) rfl
  obtain ⟨bC, hbC⟩ : ∃ x : Item, Item.block gb (.cells (bcells p r s0 s1) 75 (0, 0)) = x := ⟨_, rfl⟩
  have HC : Hid (∀ (W : World) (L' : List Item), L'[2]? = some bC → L'[7]? = some opC → Lies B W L' → W.cell? ⟨gb, 0, none⟩ = some (.pointer (some ⟨p, 0, none⟩)) ∧ W.cell? ⟨gb, 1, none⟩ = some (.pointer (some ⟨r, 0, none⟩)) ∧ W.cell? ⟨gb, 3, none⟩ = some (.pointer (some ⟨g, 0, none⟩)) ∧ W.cell? ⟨gb, 5, none⟩ = some (.pointer (some ⟨q, 0, none⟩)) ∧ W.cell? ⟨go, 1, none⟩ = some (.bool true) ∧ W.cell? ⟨go, 2, none⟩ = some (.int .i64 n)) := fun W L' h2 h7 h => by
    rw [← hop] at h7
    rw [← hbC] at h2
    have hc := block_at h h7
    have hd := block_at h h2
    subst hs
    refine ⟨?_, ?_, ?_, ?_, ?_, ?_⟩
    · rw [cell_of_row W gb 0 _ _ (0, 0) hd]; rfl
    · rw [cell_of_row W gb 1 _ _ (0, 0) hd]; rfl
    · rw [cell_of_row W gb 3 _ _ (0, 0) hd]; rfl
    · rw [cell_of_row W gb 5 _ _ (0, 0) hd]; rfl
    · rw [cell_of_row W go 1 _ _ (0, 0) hc]; rfl
    · rw [cell_of_row W go 2 _ _ (0, 0) hc]; rfl
  have z0 : w0.cell? ⟨go, 0, none⟩ = some (.int .i64 2) := by
    rw [← hop] at h0'
    have hc := block_at (q := 7) h0' rfl
    rw [cell_of_row w0 go 0 _ _ (0, 0) hc]; rfl
  obtain ⟨y0, y1, y2, y3, z1, y5⟩ := HC.out _ _ (by rw [← hbC]; rfl) rfl h0'
  have H := hide h0'
  have HB := hide hb0
  have HX0 := hide hx0
  have HX1 := hide hx1
  have hxx : x ≤ 1 := hx1 _ hs
  have H2 : Hid ((PQ p r A A gb s0 s1 [opC])[2]? = some bC) := by rw [← hbC]; rfl
  obtain ⟨L0, hL0⟩ : ∃ L, PQ p r A A gb s0 s1 [opC] = L := ⟨_, rfl⟩
  obtain ⟨E, vx, A', hE⟩ : ∃ E y X, A.raiseM (nameT true).data.toList v x n = (E, y, X) := ⟨_, _, _, rfl⟩
  obtain ⟨L1, hL1⟩ : ∃ L, (L0.set 0 (.disk p A')).set 5 (.mkI 91 g p (nameT true) vx.1 vx.2) = L := ⟨_, rfl⟩
  obtain ⟨L2, hL2⟩ : ∃ L, (L1.set 1 (.ref r A')).set 6 (.mkI 145 q r (nameT true) vx.1 vx.2) = L := ⟨_, rfl⟩
  have i0 : L0[0]? = some (.disk p A) := by rw [← hL0]; rfl
  have im : L0[5]? = some (.mkI 91 g p (nameT true) v x) := by rw [← hL0]; unfold PQ; rw [hs]; rfl
  have i1 : L1[1]? = some (.ref r A) := by rw [← hL1, ← hL0]; rfl
  have iq : L1[6]? = some (.mkI 145 q r (nameT true) v x) := by rw [← hL1, ← hL0]; unfold PQ; rw [hs]; rfl
  have a2 : L0[2]? = some bC := by rw [← hL0, ← hbC]; rfl
  have a7 : L0[7]? = some opC := by rw [← hL0]; rfl
  have b2 : L1[2]? = some bC := by rw [← hL1, ← hL0, ← hbC]; rfl
  have b7 : L1[7]? = some opC := by rw [← hL1, ← hL0]; rfl
  have c2 : L2[2]? = some bC := by rw [← hL2, ← hL1, ← hL0, ← hbC]; rfl
  have c7 : L2[7]? = some opC := by rw [← hL2, ← hL1, ← hL0]; rfl
  have zn : (nameT true).size ≤ 1000 := by decide
  have hv : vx.2 ≤ 1 := by
    have e : (A.raiseM (nameT true).data.toList v x n).2.1 = vx := by rw [hE]
    rw [← e]
    exact raise_next hxx
  have HRC : Hid (∀ W, Lies B W L0 → Calls Tryz.prog 11 #[.pointer (some ⟨g, 0, none⟩), .int .i64 n] W fun e w' => e = .returned (.int .i64 E) ∧ Lies B w' L1 ∧ Below B W w') := fun W h => by rw [← hL1]; exact mraise_any h i0 im (by decide) zn hxx n (E, vx, A') hE
  have HRD : Hid (∀ W, Lies B W L1 → Calls Tryz.prog 53 #[.pointer (some ⟨q, 0, none⟩), .int .i64 n] W fun e w' => e = .returned (.int .i64 E) ∧ Lies B w' L2 ∧ Below B W w') := fun W h => by rw [← hL2]; exact draise_any h i1 iq (by decide) HOK.out zn hxx n (E, vx, A') hE
  have HEE : Hid ((E == E) = true) := by show _ = _; simp
  have HEND : Hid (∀ W, Lies B W L2 → ∃ A' s0' s1', Lies B W (PQ p r A' A' gb s0' s1' []) ∧ xok s0' ∧ xok s1') := fun W h => by
    refine ⟨A', s0, some (g, q, vx.1, vx.2), Lies.drop1 (x := opC) ?_, ?_, ?_⟩
    · rw [← hL2, ← hL1, ← hL0] at h
      unfold PQ bcells at h ⊢
      rw [hs] at h
      exact h
    · exact hx0
    · intro z hz; cases hz; exact hv
  rw [hL0] at H
  clear h h0 h0' hb0 hx0 hx1 hop hs hxx H2 hL0 hE hL1 hL2 i0 im i1 iq zn hv
  have A2 := hide a2
  have A7 := hide a7
  have B2 := hide b2
  have B7 := hide b7
  have C2 := hide c2
  have C7 := hide c7
  clear a2 a7 b2 b7 c2 c7
  go_enter Tryz.func30, Tryz.ntmps30
  go_wp2
  clear z0 z1 y0 y1 y2 y3 y5
  obtain ⟨V1, hV⟩ : ∃ x, w0.drew = x := ⟨_, rfl⟩
  have hv0 := H.out.same (w' := w0.drew) (Nat.le_refl _) (fun _ _ _ => rfl)
  rw [hV] at hv0
  have HVB : Hid (Below B w V1) := by rw [← hV]; exact HB.out.drew
  have HVL := hide hv0
  have HS0 := hide (HC.out _ _ A2.out A7.out hv0)
  have HV := hide hV
  clear hv0 hV H HB
  try go_wp2
  refine wp_region_noPanic ?_
  refine wp_region_held_drew (S := fun wx => wx.cell? ⟨gb, 0, none⟩ = some (.pointer (some ⟨p, 0, none⟩)) ∧ wx.cell? ⟨gb, 1, none⟩ = some (.pointer (some ⟨r, 0, none⟩)) ∧ wx.cell? ⟨gb, 3, none⟩ = some (.pointer (some ⟨g, 0, none⟩)) ∧ wx.cell? ⟨gb, 5, none⟩ = some (.pointer (some ⟨q, 0, none⟩)) ∧ wx.cell? ⟨go, 1, none⟩ = some (.bool true) ∧ wx.cell? ⟨go, 2, none⟩ = some (.int .i64 n)) (by kernel_rfl) (by rw [HV.out]; exact HS0.out) (fun hHeld => ?_)
  rw [HV.out] at hHeld ⊢
  clear HV HS0
  refine tK 0 (some 66) (.pointer (some ⟨gb, 0, none⟩)) rfl hHeld ?_
  simp only [Act.put, pA, pB, pC]
  refine tK 1 (some 67) (.int .i64 1) rfl hHeld ?_
  simp only [Act.put, pA, pB, pC]
  refine tK 2 (some 68) (.pointer (some ⟨gb, 0, none⟩)) rfl hHeld ?_
  simp only [Act.put, pA, pB, pC]
  refine tK 3 (some 69) (.pointer (some ⟨gb, 2, none⟩)) rfl hHeld ?_
  simp only [Act.put, pA, pB, pC]
  refine tK 4 (some 70) (.pointer (some ⟨gb, 3, none⟩)) rfl hHeld ?_
  simp only [Act.put, pA, pB, pC]
  refine tH 5 (some 71) (.pointer (some ⟨g, 0, none⟩)) rfl (fun w hw => by obtain ⟨hw0, hw1, hw2, hw3, hw4, hw5⟩ := hw; first | rfl | (go_simp; done) | (go_simp; rfl)) hHeld ?_
  simp only [Act.put, pA, pB, pC]
  refine tK 6 (some 72) (.pointer (some ⟨go, 2, none⟩)) rfl hHeld ?_
  simp only [Act.put, pA, pB, pC]
  refine tH 7 (some 73) (.int .i64 n) rfl (fun w hw => by obtain ⟨hw0, hw1, hw2, hw3, hw4, hw5⟩ := hw; first | rfl | (go_simp; done) | (go_simp; rfl)) hHeld ?_
  simp only [Act.put, pA, pB, pC]
  refine rdH 8 rfl (fun K hK => ?_)
  go_simp
  refine (HRC.out _ HVL.out).mono ?_
  rintro e wc1 ⟨rfl, h2, hb2⟩
  try go_wp2_with fail
  refine hK.out _ _ (HC.out _ _ B2.out B7.out h2) (fun hH => ?_)
  clear hK K hHeld
  have hHeld := hH
  clear hH
  have HB := hide (HVB.out.trans hb2)
  have H := hide h2
  clear h2 hb2 HVL HVB
  refine tK 9 (some 10) (.int .i64 E) rfl hHeld ?_
  simp only [Act.put, pA, pB, pC]
  refine ⟨by kernel_rfl, ?_⟩
  refine NoPanic.normal ?_
  clear hHeld
  obtain ⟨V2, hV⟩ : ∃ x, wc1.drew = x := ⟨_, rfl⟩
  have hv0 := H.out.same (w' := wc1.drew) (Nat.le_refl _) (fun _ _ _ => rfl)
  rw [hV] at hv0
  have HVB : Hid (Below B w V2) := by rw [← hV]; exact HB.out.drew
  have HVL := hide hv0
  have HS0 := hide (HC.out _ _ B2.out B7.out hv0)
  have HV := hide hV
  clear hv0 hV H HB
  try go_wp2
  refine wp_region_noPanic ?_
  refine wp_region_held_drew (S := fun wx => wx.cell? ⟨gb, 0, none⟩ = some (.pointer (some ⟨p, 0, none⟩)) ∧ wx.cell? ⟨gb, 1, none⟩ = some (.pointer (some ⟨r, 0, none⟩)) ∧ wx.cell? ⟨gb, 3, none⟩ = some (.pointer (some ⟨g, 0, none⟩)) ∧ wx.cell? ⟨gb, 5, none⟩ = some (.pointer (some ⟨q, 0, none⟩)) ∧ wx.cell? ⟨go, 1, none⟩ = some (.bool true) ∧ wx.cell? ⟨go, 2, none⟩ = some (.int .i64 n)) (by kernel_rfl) (by rw [HV.out]; exact HS0.out) (fun hHeld => ?_)
  rw [HV.out] at hHeld ⊢
  clear HV HS0
  refine tK 0 (some 75) (.int .i64 E) rfl hHeld ?_
  simp only [Act.put, pA, pB, pC]
  refine tK 1 (some 76) (.pointer (some ⟨gb, 0, none⟩)) rfl hHeld ?_
  simp only [Act.put, pA, pB, pC]
  refine tK 2 (some 77) (.int .i64 1) rfl hHeld ?_
  simp only [Act.put, pA, pB, pC]
  refine tK 3 (some 78) (.pointer (some ⟨gb, 0, none⟩)) rfl hHeld ?_
  simp only [Act.put, pA, pB, pC]
  refine tK 4 (some 79) (.pointer (some ⟨gb, 4, none⟩)) rfl hHeld ?_
  simp only [Act.put, pA, pB, pC]
  refine tK 5 (some 80) (.pointer (some ⟨gb, 5, none⟩)) rfl hHeld ?_
  simp only [Act.put, pA, pB, pC]
  refine tH 6 (some 81) (.pointer (some ⟨q, 0, none⟩)) rfl (fun w hw => by obtain ⟨hw0, hw1, hw2, hw3, hw4, hw5⟩ := hw; first | rfl | (go_simp; done) | (go_simp; rfl)) hHeld ?_
  simp only [Act.put, pA, pB, pC]
  refine tK 7 (some 82) (.pointer (some ⟨go, 2, none⟩)) rfl hHeld ?_
  simp only [Act.put, pA, pB, pC]
  refine tH 8 (some 83) (.int .i64 n) rfl (fun w hw => by obtain ⟨hw0, hw1, hw2, hw3, hw4, hw5⟩ := hw; first | rfl | (go_simp; done) | (go_simp; rfl)) hHeld ?_
  simp only [Act.put, pA, pB, pC]
  refine rdH 9 rfl (fun K hK => ?_)
  go_simp
  refine (HRD.out _ HVL.out).mono ?_
  rintro e wc2 ⟨rfl, h2, hb2⟩
  try go_wp2_with fail
  refine hK.out _ _ (HC.out _ _ C2.out C7.out h2) (fun hH => ?_)
  clear hK K hHeld
  have hHeld := hH
  clear hH
  have HB := hide (HVB.out.trans hb2)
  have H := hide h2
  clear h2 hb2 HVL HVB
  refine tH 10 (some 85) (.bool true) rfl (fun w hw => by have := HEE.out; first | rfl | (go_simp; done) | (go_simp; rfl)) hHeld ?_
  simp only [Act.put, pA, pB, pC]
  refine tK 11 (some 4) (.bool true) rfl hHeld ?_
  simp only [Act.put, pA, pB, pC]
  refine ⟨by kernel_rfl, ?_⟩
  refine NoPanic.normal ?_
  clear hHeld
  clear HC
  go_wp2
  go_ret
  exact ⟨rfl, HEND.out _ H.out, HB.out⟩
end Go.Proofs.YtlkimfmilccanaaGreat
