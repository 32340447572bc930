/-
  script: what may come upon something that isn't a line's.
-/
import Derived.Test.YtlgnlijgmibmmaaGreatDoorSRe
import Derived.Defers
namespace Go.Proofs.YtlgnlijgmibmmaaGreatDoor
open Go.RowKit S
set_option linter.unusedVariables false
set_option linter.unusedSimpArgs false
set_option maxRecDepth 100000 in
theorem answerOf_any (w : World) : Calls Tryz.prog 37 #[noV] w fun e w' => e = .returned (.int .i64 250) ∧ Below w.heap.size w w' := by
  have hta : ∀ w : World, (Instr.typeAssert (.iface 103 (.agg #[])) 20 103 true).run Tryz.prog w = .ok (.tuple #[.agg #[], .bool true]) w := fun w => by kernel_rfl
  unfold noV
  go_enter Tryz.func37, Tryz.ntmps37
  go_wp2
  go_ret
  exact ⟨rfl, (Below.refl _ w).alloc (Nat.le_refl _) _⟩
theorem catch_idle (p : Addr) (w : World) :
    CallsD Tryz.prog 36 #[.pointer (some p)] .returning w fun e u' w' => e = .returned (.tuple #[]) ∧ u' = .returning ∧ w' = w := by
  refine callsD_of_wpS Tryz.func36 rfl fun c₀ cs hu => ?_
  apply wpS_seq
  apply wpS_region
  simp [wpOpsS, go_sem, recoverD, hu, Tryz.ntmps36, Exit.thenS]
  refine wpS_of_wp ?_
  show Code.wp _ _ _ { tmps := #[.pointer (some p), .nilIface, .nilIface, undef, undef, undef, undef], defers := [] } _
  go_wp2
  cases c₀
  simp_all [bodyPostS, results, Tryz.results36]
set_option maxRecDepth 20000 in
theorem catch_panicking (g : Nat) (w : World) (hg : Has w g 26 (fun _ => .int .i64 0) 1) (older : List PanicEntry) :
    CallsD Tryz.prog 36 #[.pointer (some ⟨g, 0, none⟩)] (.panicking ({ v := noV, recovered := false } :: older)) w fun e u' w' =>
      e = .returned (.tuple #[]) ∧ u' = .panicking ({ v := noV, recovered := true } :: older) ∧ ∃ w1, Below w.heap.size w w1 ∧ w' = w1.setCell ⟨g, 0, none⟩ (.int .i64 250) := by
  refine callsD_of_wpS Tryz.func36 rfl fun c₀ cs hu => ?_
  apply wpS_seq
  apply wpS_region
  simp [wpOpsS, go_sem, recoverD, hu, Tryz.ntmps36, Exit.thenS]
  refine wpS_of_wp ?_
  show Code.wp _ _ _ { tmps := #[.pointer (some ⟨g, 0, none⟩), .iface 103 (.agg #[]), .iface 103 (.agg #[]), undef, undef, undef, undef], defers := [] } _
  have hne : ∀ w : World, (binOp BinOp.neq 20 (.iface 103 (.agg #[])) .nilIface).run Tryz.prog w = .ok (.bool true) w := fun w => by kernel_rfl
  go_wp2_with fail
  refine (answerOf_any _).mono ?_
  rintro e w1 ⟨rfl, b1⟩
  have h1 := hg.below b1 hg.lt
  have c1 : w1.cell? ⟨g, 0, none⟩ = some (.int .i64 0) := h1.cell 0 (by omega)
  have f1 := h1.frozen 0
  have HB1 := hide b1
  clear b1 h1 hg hne
  go_wp2
  simp [bodyPostS, results, Tryz.results36]
  exact ⟨w1, HB1.out, rfl⟩
theorem Cmds.kp {B b : Nat} {w w' : World} {v : Value} {gs : List (Nat → Value)} {cs : List Cd} (h : Cmds B w v gs cs) (k : Kp b b w w') (hb : b < B) : Cmds B w' v gs cs :=
  ⟨h.own.kp k hb hb, h.len, fun i g c hg hc => ⟨(h.each i g c hg hc).1, (h.each i g c hg hc).2.1.kp k hb hb, (h.each i g c hg hc).2.2⟩, h.ap1, h.ap2⟩
set_option maxRecDepth 100000 in
theorem parse1_any {E : Prop} {B : Nat} {F : Int → List UInt8} (bT bL : Nat) (l : List UInt8) (w : World) (hE : Env E B F w) (hB : B ≤ w.heap.size) (hl : l.length ≤ 65536) (hg : E ∨ ∀ x ∈ linesL l, noth x = false → lineT F x)
    (hT : Has w bT 9 (fun _ => .string (bs l)) 1) (hL : Has w bL 25 (fun _ => .slice none 0 0) 1) :
    Calls Tryz.prog 26 #[.pointer (some ⟨bT, 0, none⟩), .pointer (some ⟨bL, 0, none⟩)] w fun e w' => Kp bL bL w w' ∧
      ((∃ ad n cap gs cs, readA F (linesL l) = some cs ∧ e = .returned (.tuple #[]) ∧ Has w' bL 25 (fun _ => .slice ad n cap) 1 ∧ Cmds w.heap.size w' (.slice ad n cap) gs cs) ∨ (readA F (linesL l) = none ∧ Bad e ∧ Has w' bL 25 (fun _ => .slice none 0 0) 1)) := by
  have c0 : w.cell? ⟨bT, 0, none⟩ = some (.string (bs l)) := hT.cell 0 (by omega)
  have HG := hide hg
  clear hg
  go_enter Tryz.func26, Tryz.ntmps26
  go_wp2_with fail
  refine (read_any l _ hE hB hl HG.out).mono ?_
  rintro e w1 ⟨b1, ⟨v, gs, cs, hA, rfl, hC⟩ | ⟨hA, rfl⟩⟩
  · obtain ⟨ad, cap, rfl, _⟩ := hC.own.shape
    have hL1 := hL.below b1 hL.lt
    have c1 : w1.cell? ⟨bL, 0, none⟩ = some (.slice none 0 0) := hL1.cell 0 (by omega)
    have f1 := hL1.frozen 0
    have hbl := hL.lt
    generalize gs.length = n at hC
    have HL2 : Hid (Has (w1.setCell ⟨bL, 0, none⟩ (.slice ad n cap)) bL 25 (fun _ => .slice ad n cap) 1) := hide ((hL1.set 0 _).congr _ fun i hi => by
      obtain rfl : i = 0 := by omega
      rfl)
    have HK2 : Hid (Kp bL bL w (w1.setCell ⟨bL, 0, none⟩ (.slice ad n cap))) := hide ((Kp.of b1).trans (Kp.set _ _ _ (.inl rfl)))
    have HC2 : Hid (Cmds w.heap.size (w1.setCell ⟨bL, 0, none⟩ (.slice ad n cap)) (.slice ad n cap) gs cs) := hide (hC.kp (Kp.set _ ⟨bL, 0, none⟩ _ (.inl rfl) : Kp bL bL w1 _) hbl)
    have HA := hide hA
    clear hA hC b1 hL1
    go_wp2
    go_end0
    exact ⟨HK2.out, .inl ⟨_, _, _, _, _, HA.out, rfl, HL2.out, HC2.out⟩⟩
  · have HA := hide hA
    have HL2 := hide (hL.below b1 hL.lt)
    have HK2 : Hid (Kp bL bL w w1) := hide (Kp.of b1)
    clear hA b1
    go_wp2
    exact ⟨rfl, HK2.out, .inr ⟨HA.out, rfl, HL2.out⟩⟩
end Go.Proofs.YtlgnlijgmibmmaaGreatDoor
