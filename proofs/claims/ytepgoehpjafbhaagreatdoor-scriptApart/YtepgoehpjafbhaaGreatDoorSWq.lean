/-
  script's writer: hashes, quoted texts.
-/
import Derived.Test.YtepgoehpjafbhaaGreatDoorSHx
namespace Go.Proofs.YtepgoehpjafbhaaGreatDoor
open Go.RowKit S
set_option linter.unusedVariables false
set_option linter.unusedSimpArgs false
theorem quote_len (s : List UInt8) : (quoteB s).length ≤ 4 * s.length + 2 := by
  unfold quoteB
  have := qf_len s
  rw [List.length_append, List.length_cons]
  simp only [List.length_cons, List.length_nil]
  omega
set_option maxRecDepth 100000 in
theorem whash_any (b N c off m : Nat) (ty : TypeId) (f : Nat → Value) (h : Nat → UInt8) (v : Value) (x : WS) (w : World)
    (hW : Wr w b N v x.1 x.2) (hC : Has w c ty f m) (ho : off + 32 ≤ m) (hf : ∀ i, i < 32 → f (off + i) = bv h i) (ht : x.1.length ≤ 65536) :
    Calls Tryz.prog 95 #[.pointer (some ⟨b, 0, none⟩), .pointer (some ⟨c, off, none⟩)] w fun e w' => e = .returned (.tuple #[]) ∧ ∃ v', Wr w' b N v' (wordW (hexL h) x).1 (wordW (hexL h) x).2 ∧ Mw b w v w' v' := by
  have hat : At w c off (bv h) 32 := hC.at_ off ho hf
  have HAt := hide hat
  clear hat hf
  go_enter Tryz.func95, Tryz.ntmps95
  go_wp2_with (refine wpW_load_at 30 _ rfl c off (by rfl) (by rfl) _ 32 _ HAt.out Tryz.underlying30 rfl infoH ?_)
  refine (hex_any h _).mono ?_
  rintro e w1 ⟨rfl, b1⟩
  have hW1 := hW.below b1
  have HM1 : Hid (Mw b w v w1 v) := hide (Mw.of b1)
  clear b1
  go_wp2_with fail
  refine (addWord_any b N v x (hexL h) _ hW1 ht (by rw [hexL_len]; omega)).mono ?_
  rintro e w2 ⟨rfl, v2, hW2, hM2⟩
  have HW2 := hide hW2
  have HM2 := hide (HM1.out.trans hM2)
  clear hW2 hM2 hW1
  go_wp2
  go_end0
  exact ⟨rfl, v2, HW2.out, HM2.out⟩
/-- A quoted text more, if there is room for its bytes. -/
def quoW (s : List UInt8) (x : WS) : WS := if fitB x.1 s.length x.2 then (x.1, true) else wordW (quoteB s) (x.1, false)
theorem quoW_le {s : List UInt8} {x : WS} (h : x.1.length ≤ 65536) : (quoW s x).1.length ≤ 65536 := by
  unfold quoW
  split
  · exact h
  · exact wordW_le h
set_option maxRecDepth 100000 in
theorem wquoted_any (b N c off m : Nat) (ty : TypeId) (f : Nat → Value) (s : List UInt8) (v : Value) (x : WS) (w : World)
    (hW : Wr w b N v x.1 x.2) (hC : Has w c ty f m) (ho : off < m) (hf : f off = .string (bs s)) (hcb : c ≠ b) (hvc : v.ownBlock ≠ some c) (hs : s.length ≤ 140737488355328) (ht : x.1.length ≤ 65536) :
    Calls Tryz.prog 99 #[.pointer (some ⟨b, 0, none⟩), .pointer (some ⟨c, off, none⟩)] w fun e w' => e = .returned (.tuple #[]) ∧ ∃ v', Wr w' b N v' (quoW s x).1 (quoW s x).2 ∧ Mw b w v w' v' := by
  have c0 : w.cell? ⟨c, off, none⟩ = some (.string (bs s)) := by rw [hC.cell off ho, hf]
  have hq := fits_any b N v x.1 (bs s) x.2 w hW ht (by rw [bs_size]; exact hs)
  rw [bs_size] at hq
  obtain ⟨R, hR⟩ : ∃ R, quoW s x = R := ⟨_, rfl⟩
  rw [hR]
  obtain ⟨B1, hB1⟩ : ∃ B1, fitB x.1 s.length x.2 = B1 := ⟨_, rfl⟩
  have HR : Hid (R = if B1 then (x.1, true) else wordW (quoteB s) (x.1, false)) := hide (by rw [← hR, ← hB1]; rfl)
  have hfit : B1 = false → s.length ≤ 65536 := fun e => by rw [e] at hB1; unfold fitB at hB1; simp at hB1; omega
  rw [hB1] at hq
  have HC := hide hC
  have Hf := hide hf
  clear hR hB1 hW hC hf
  go_enter Tryz.func99, Tryz.ntmps99
  go_wp2_with fail
  refine hq.mono ?_
  rintro e w1 ⟨rfl, hW1, hM1⟩
  cases B1 with
  | true =>
    have HR2 : Hid (R = (x.1, true)) := hide HR.out
    have HW1 := hide hW1
    have HM1 := hide hM1
    clear hW1 hM1 hq
    go_wp2
    go_end0
    rw [HR2.out]
    exact ⟨rfl, v, HW1.out, HM1.out⟩
  | false =>
    have HR2 : Hid (R = wordW (quoteB s) (x.1, false)) := hide HR.out
    have hs2 := hfit rfl
    have hC1 := hM1.has HC.out hcb hvc
    have c1 : w1.cell? ⟨c, off, none⟩ = some (.string (bs s)) := by rw [hC1.cell off ho, Hf.out]
    have HM1 := hide hM1
    clear hM1 hq hC1
    go_wp2_with fail
    refine (quote_any s _ (by omega)).mono ?_
    rintro e w2 ⟨rfl, b2⟩
    have hW2 := hW1.below b2
    have HM2 := hide (HM1.out.trans (Mw.of b2))
    have hql := quote_len s
    clear b2 hW1
    go_wp2_with fail
    refine (addWord_any b N v (x.1, false) (quoteB s) _ hW2 ht (by omega)).mono ?_
    rintro e w3 ⟨rfl, v3, hW3, hM3⟩
    have HW3 := hide hW3
    have HM3 := hide (HM2.out.trans hM3)
    clear hW2 hW3 hM3
    go_wp2
    go_end0
    rw [HR2.out]
    exact ⟨rfl, v3, HW3.out, HM3.out⟩
end Go.Proofs.YtepgoehpjafbhaaGreatDoor
