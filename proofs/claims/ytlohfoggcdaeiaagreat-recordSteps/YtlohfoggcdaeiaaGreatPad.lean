/-
  pad, told, Sum.
-/
import Derived.Test.YtlohfoggcdaeiaaGreatTake
import Derived.Laws.BytesArg
namespace Go.Proofs.YtlohfoggcdaeiaaGreat
set_option maxRecDepth 20000
open Go.RowKit S
def strOf (f : Nat → UInt8) (m : Nat) : ByteArray := ⟨((List.range m).map f).toArray⟩
theorem strOf_size (f : Nat → UInt8) (m : Nat) : (strOf f m).size = m := by simp [strOf, ByteArray.size]
theorem strOf_list (f : Nat → UInt8) (m : Nat) : (strOf f m).data.toList = (List.range m).map f := by simp [strOf]
/-- string(b[:]), b in a block. -/
theorem run_conv {w : World} {g : Nat} {t : TypeId} {f : Nat → UInt8} {M : Nat} (h : Has w g t (bv f) M) (m cap : Nat) (hm : m ≤ M) : (convert 77 9 (.slice (some ⟨g, 0, none⟩) m cap)).run Tryz.prog w = .ok (.string (strOf f m)) w := by
  have hr := run_convert_bytes_arg w 77 5 Tryz.underlying77 Tryz.underlying5 g 0 m cap ((List.range m).map fun i => ((f i).toNat : Int)) (by simp) (fun i hi => by
    rw [Nat.zero_add, h.cell i (by omega)]
    simp [hi, bv]) 9 Tryz.underlying9
  have e : strOfNums ((List.range m).map fun i => ((f i).toNat : Int)) = strOf f m := by
    simp only [strOfNums, List.map_map, Function.comp_def, Int.toNat_natCast]
    simp [strOf]
  rw [hr, e]
/-- How far the count is off 56 modulo 64. -/
def left56 (g : Nat) (w : World) : Nat := match w.cell? ⟨g, 72, none⟩ with | some (.int _ c) => (120 - c.toNat % 64) % 64 | _ => 0
theorem left56_of [Inhabited S.Tbl] {n : Num} {w : World} {g : Nat} {L : List UInt8} (h : SumIs n w g L) : left56 g w = (120 - L.length % 64) % 64 := by
  obtain ⟨bl, h1, _⟩ := h
  unfold left56; rw [cell_st h1]; simp
def lenUp (m k : Nat) : Nat → UInt8 := fun i => if i < k then lenByte m i else 0
theorem lenUp_next (m k : Nat) : upd (lenUp m k) k (lenByte m k) = lenUp m (k + 1) := by
  funext i; unfold upd lenUp
  by_cases e : i = k
  · subst e; rw [if_pos rfl, if_pos (by omega)]
  · rw [if_neg e]; by_cases h : i < k
    · rw [if_pos h, if_pos (by omega)]
    · rw [if_neg h, if_neg (by omega)]
theorem SumIs.other [Inhabited S.Tbl] {n : Num} {w : World} {g : Nat} {L : List UInt8} (h : SumIs n w g L) (p : Addr) (v : Value) (hp : g ≠ p.block) : SumIs n (w.setCell p v) g L := by
  obtain ⟨bl, h1, h2⟩ := h
  exact ⟨bl, h1.other p v hp, h2⟩
theorem lenByte_num (m k : Nat) (hk : k < 8) : (m : Int) * 8 / 2 ^ (56 - 8 * k) % 256 = ((lenByte m k).toNat : Int) := by
  unfold lenByte
  rw [UInt8.toNat_ofNat', show 8 * (7 - k) = 56 - 8 * k by omega, Nat.mul_comm 8 m]
  simp
set_option maxHeartbeats 800000 in
theorem pad_any [Inhabited S.Tbl] (n : Num) (g : Nat) (L : List UInt8) (w : World) (hG : Glob n w) (hg2 : 2 ≤ g) (hS : SumIs n w g L) (hl : L.length < 1152921504606846976) :
    Calls Tryz.prog 145 #[.pointer (some ⟨g, 0, none⟩)] w fun e w' => e = .returned (.tuple #[]) ∧ SumIs n w' g (padded L) ∧ Below g w w' := by
  have cn : w.cell? ⟨g, 72, none⟩ = some (.int .u64 (L.length : Int)) := by obtain ⟨bl, h1, _⟩ := hS; exact cell_st h1
  go_enter Tryz.func145, Tryz.ntmps145
  go_wp2_with fail
  refine (take_any n g L _ _ hG hg2 hS (by simp [ByteArray.size]; omega)).mono ?_
  rintro e w1 ⟨rfl, hS1, hb1⟩
  go_wp2
  go_loopw [] (fun wr => ∃ z : Nat, z ≤ zeros L.length ∧ SumIs n wr g (L ++ [0x80] ++ List.replicate z 0) ∧ Below g w wr) (fun wr => left56 g wr)
  case atStart => exact ⟨0, Nat.zero_le _, by rw [List.replicate_zero, List.append_nil]; exact hS1, hb1⟩
  case round =>
    clear hS hS1 hb1 cn
    obtain ⟨z, hz, hS, hb⟩ := hrel
    have cn : wr.cell? ⟨g, 72, none⟩ = some (.int .u64 ((L.length : Int) + 1 + z)) := by
      obtain ⟨bl, h1, _⟩ := hS
      rw [cell_st h1]; simp; omega
    have hzz : zeros L.length = (119 - L.length % 64) % 64 := rfl
    by_cases hlt : z < zeros L.length
    · have hd : (((L.length : Int) + 1 + z) % 64 != 56) = true := by rw [bne_iff_ne]; omega
      go_wp2_with fail
      refine (take_any n g _ _ _ (hG.below hb hg2) hg2 hS (by simp [ByteArray.size]; omega)).mono ?_
      rintro e w2 ⟨rfl, hS2, hb2⟩
      go_wp2
      have hS3 : SumIs n w2 g (L ++ [0x80] ++ List.replicate (z + 1) 0) := by
        rw [List.replicate_succ', ← List.append_assoc]; exact hS2
      go_roundw
      case rel => exact ⟨z + 1, by omega, hS3, hb.trans hb2⟩
      case measure =>
        rw [left56_of hS, left56_of hS3]
        simp
        omega
    · have hd : (((L.length : Int) + 1 + z) % 64 != 56) = false := by rw [bne_eq_false_iff_eq]; omega
      have hzl : z = zeros L.length := by omega
      clear hzz hz hlt
      subst hzl
      go_wp2
      generalize hW : World.alloc wr _ = w3
      have h0 : Has w3 wr.heap.size 193 (bv (lenUp L.length 0)) 8 := by
        rw [← hW]
        exact (Has.new wr 193 (fun _ => .int .u8 0) 8 _ rfl).congr _ (fun i _ => by unfold bv lenUp; rw [if_neg (by omega)]; rfl)
      have hgl : g < wr.heap.size := by obtain ⟨bl, h1, _⟩ := hS; exact h1.lt
      have hb3 : Below wr.heap.size wr w3 := by rw [← hW]; exact (Below.refl _ _).alloc (Nat.le_refl _) _
      have hS3 := hS.below hb3 hgl
      have hb4 := hb.trans (hb3.mono (Nat.le_of_lt hgl))
      clear hW hS hb cn hd hb3
      generalize wr.heap.size = gb at *
      go_loopw [20] (fun i wq => ∃ k : Nat, k ≤ 8 ∧ i = .int .i64 k ∧ Has wq gb 193 (bv (lenUp L.length k)) 8 ∧ SumIs n wq g (L ++ [0x80] ++ List.replicate (zeros L.length) 0) ∧ Below g w wq) (fun i _ => 8 - (intOf i).toNat)
      case atStart => exact ⟨0, by omega, rfl, h0, hS3, hb4⟩
      case round =>
        clear h0 hS3 hb4
        obtain ⟨k, hk, rfl, h0, hS3, hb4⟩ := hrel
        by_cases hlt : k < 8
        · have cw := h0.cell k hlt
          have cf := h0.frozen k
          have hd : decide ((k : Int) < 8) = true := by simp; omega
          simp only [bv] at cw
          go_wp2
          go_roundw
          case rel =>
            refine ⟨k + 1, by omega, by go_num, ?_, hS3.other _ _ (by simp; omega), hb4.setCell (by simp; omega) _⟩
            have := h0.set k (.int .u8 ((lenByte L.length k).toNat : Int))
            rw [bv_upd, lenUp_next] at this
            rw [lenByte_num L.length k hlt]
            exact this
          case measure => simp [intOf]; omega
        · have hk8 : k = 8 := by omega
          subst hk8
          have hcv := run_conv h0 8 8 (Nat.le_refl _)
          go_wp2_with fail
          refine (take_any n g _ _ _ (hG.below hb4 hg2) hg2 hS3 ?_).mono ?_
          · have := Nat.mod_lt (119 - L.length % 64) (show 0 < 64 by omega)
            rw [strOf_size]; simp [zeros]; omega
          rintro e w2 ⟨rfl, hS2, hb2⟩
          go_wp2
          go_end0
          refine ⟨rfl, ?_, hb4.trans hb2⟩
          rw [strOf_list] at hS2
          exact hS2
end Go.Proofs.YtlohfoggcdaeiaaGreat
