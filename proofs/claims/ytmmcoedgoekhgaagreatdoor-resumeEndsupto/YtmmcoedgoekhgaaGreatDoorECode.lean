import Derived.Test.YtmmcoedgoekhgaaGreatDoorGSortM
import Derived.Test.YtmmcoedgoekhgaaGreatDoorGTurned
import Derived.Test.YtmmcoedgoekhgaaGreatDoorSLaid
import Derived.Test.YtmmcoedgoekhgaaGreatDoorSNear
import Derived.Test.YtmmcoedgoekhgaaGreatDoorBytesText
import Derived.Deep.RegionHeld3
import Derived.Deep.DrawnRows
import Derived.BigQuiet
/-
  One operation of a drawn region taken ahead.
-/
namespace Go.Proofs.YtmmcoedgoekhgaaGreatDoor
set_option maxRecDepth 20000
open Go.RowKit S
-- stands in another text: takeH
-- stands in another text: wp_store_part
-- stands in another text: zero32
-- stands in another text: Glob.up
-- stands in another text: wpList_load_want
end Go.Proofs.YtmmcoedgoekhgaaGreatDoor
/-
  Sign and Right of the code.
-/
namespace Go.Proofs.YtmmcoedgoekhgaaGreatDoor
set_option maxRecDepth 20000
open Go.RowKit S
set_option maxHeartbeats 800000 in
theorem sign_any (n : Num) (key : Nat → UInt8) (s : ByteArray) (w : World) (hG : Glob n w) (hl : s.size < 1152921504606840000) :
    Calls Tryz.prog 47 #[.agg (tabv (bv key) 32), .string s] w fun e w' => e = .returned (.agg (tabv (bv (mac key s.data.toList)) 32)) ∧ Below w.heap.size w w' := by
  have h0 : Has ((w.alloc (.cells (tabv (bv key) 32) 23)).alloc (.cells (tabv (fun _ => .int .u8 0) 32) 23)) w.heap.size 23 (bv key) 32 := (Has.new w 23 (bv key) 32 _ rfl).old _
  have h1 : Has ((w.alloc (.cells (tabv (bv key) 32) 23)).alloc (.cells (tabv (fun _ => .int .u8 0) 32) 23)) (w.heap.size + 1) 23 (fun _ => .int .u8 0) 32 := by
    have := Has.new (w.alloc (.cells (tabv (bv key) 32) 23)) 23 (fun _ => .int .u8 0) 32 _ rfl
    rw [size_alloc] at this
    exact this
  have hb : Below w.heap.size w ((w.alloc (.cells (tabv (bv key) 32) 23)).alloc (.cells (tabv (fun _ => .int .u8 0) 32) 23)) := ((Below.refl w.heap.size w).alloc (Nat.le_refl _) _).alloc (by simp) _
  have H0 := hide h0
  have H1 := hide h1
  clear h0 h1
  go_enter Tryz.func47, Tryz.ntmps47
  go_wp2_with (refine wpList_load_part rfl 23 _ rfl w.heap.size 0 rfl 23 _ 32 32 _ H0.out (by omega) Tryz.underlying23 rfl info26 (bv key) (fun i _ => by rw [Nat.zero_add]) ?_)
  refine (mac_any n key s _ (hG.below hb hG.2.2) hl).mono ?_
  rintro e w1 ⟨rfl, hb1⟩
  have k1 := H1.out.below hb1 H1.out.lt
  have kb := hb.trans (hb1.mono hb.size)
  clear H0 H1 hb hb1
  go_wp2_with (refine wpList_store_part rfl 23 _ _ rfl rfl (w.heap.size + 1) 0 (bv (mac key s.data.toList)) 32 rfl rfl 23 _ 32 k1 (by omega) info26 (fun _ _ => rfl) (bv (mac key s.data.toList)) (fun i hi => by unfold splice; rw [if_pos (by omega), Nat.sub_zero]) ?_)
  exact bodyPost_ret (results_cell_row rfl _ _ (w.heap.size + 1) 23 _ (0, 0) _ rfl (k1.row _ _ rfl) Tryz.underlying23 rfl (by rw [tabv_size]; exact info26)) rfl ⟨rfl, below_setRow kb (by omega) _⟩
/-- Two hashes are one. -/
def sameH (f g : Nat → UInt8) : Bool := (List.range 32).all fun i => f i == g i
end Go.Proofs.YtmmcoedgoekhgaaGreatDoor
