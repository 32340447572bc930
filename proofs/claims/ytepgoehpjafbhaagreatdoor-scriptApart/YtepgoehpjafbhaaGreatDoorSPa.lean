import Derived.Test.YtepgoehpjafbhaaGreatDoorSRe
import Derived.Defers
/-
  script: what may come upon something that isn't a line's.
-/
namespace Go.Proofs.YtepgoehpjafbhaaGreatDoor
open Go.RowKit S
set_option linter.unusedVariables false
set_option linter.unusedSimpArgs false
set_option maxRecDepth 100000 in
theorem answerOf_any (w : World) : Calls Tryz.prog 37 #[noV] w fun e w' => e = .returned (.int .i64 250) ∧ Below w.heap.size w w' := by
  have hta : ∀ w : World, (Instr.typeAssert (.iface 103 (.agg #[])) 20 103 true).run Tryz.prog w = .ok (.tuple #[.agg #[], .bool true]) w := fun w => by kernel_rfl
  unfold noV
  go_enter Tryz.func37, Tryz.ntmps37
  go_wp2
  go_ret
  exact ⟨rfl, (Below.refl _ w).alloc (Nat.le_refl _) _⟩
theorem catch_idle (p : Addr) (w : World) :
    CallsD Tryz.prog 36 #[.pointer (some p)] .returning w fun e u' w' => e = .returned (.tuple #[]) ∧ u' = .returning ∧ w' = w := by
  refine callsD_of_wpS Tryz.func36 rfl fun c₀ cs hu => ?_
  apply wpS_seq
  apply wpS_region
  simp [wpOpsS, go_sem, recoverD, hu, Tryz.ntmps36, Exit.thenS]
  refine wpS_of_wp ?_
  show Code.wp _ _ _ { tmps := #[.pointer (some p), .nilIface, .nilIface, undef, undef, undef, undef], defers := [] } _
  go_wp2
  cases c₀
  simp_all [bodyPostS, results, Tryz.results36]
set_option maxRecDepth 20000 in
theorem catch_panicking (g : Nat) (w : World) (hg : Has w g 26 (fun _ => .int .i64 0) 1) (older : List PanicEntry) :
    CallsD Tryz.prog 36 #[.pointer (some ⟨g, 0, none⟩)] (.panicking ({ v := noV, recovered := false } :: older)) w fun e u' w' =>
      e = .returned (.tuple #[]) ∧ u' = .panicking ({ v := noV, recovered := true } :: older) ∧ ∃ w1, Below w.heap.size w w1 ∧ w' = w1.setCell ⟨g, 0, none⟩ (.int .i64 250) := by
  refine callsD_of_wpS Tryz.func36 rfl fun c₀ cs hu => ?_
  apply wpS_seq
  apply wpS_region
  simp [wpOpsS, go_sem, recoverD, hu, Tryz.ntmps36, Exit.thenS]
  refine wpS_of_wp ?_
  show Code.wp _ _ _ { tmps := #[.pointer (some ⟨g, 0, none⟩), .iface 103 (.agg #[]), .iface 103 (.agg #[]), undef, undef, undef, undef], defers := [] } _
  have hne : ∀ w : World, (binOp BinOp.neq 20 (.iface 103 (.agg #[])) .nilIface).run Tryz.prog w = .ok (.bool true) w := fun w => by kernel_rfl
  go_wp2_with fail
  refine (answerOf_any _).mono ?_
  rintro e w1 ⟨rfl, b1⟩
  have h1 := hg.below b1 hg.lt
  have c1 : w1.cell? ⟨g, 0, none⟩ = some (.int .i64 0) := h1.cell 0 (by omega)
  have f1 := h1.frozen 0
  have HB1 := hide b1
  clear b1 h1 hg hne
  go_wp2
  simp [bodyPostS, results, Tryz.results36]
  exact ⟨w1, HB1.out, rfl⟩
theorem Cmds.kp {B b : Nat} {w w' : World} {v : Value} {gs : List (Nat → Value)} {cs : List Cd} (h : Cmds B w v gs cs) (k : Kp b b w w') (hb : b < B) : Cmds B w' v gs cs :=
  ⟨h.own.kp k hb hb, h.len, fun i g c hg hc => ⟨(h.each i g c hg hc).1, (h.each i g c hg hc).2.1.kp k hb hb, (h.each i g c hg hc).2.2⟩, h.ap1, h.ap2⟩
set_option maxRecDepth 100000 in
theorem parse1_any {E : Prop} {B : Nat} {F : Int → List UInt8} (bT bL : Nat) (l : List UInt8) (w : World) (hE : Env E B F w) (hB : B ≤ w.heap.size) (hl : l.length ≤ 65536) (hg : E ∨ ∀ x ∈ linesL l, noth x = false → lineT F x)
    (hT : Has w bT 9 (fun _ => .string (bs l)) 1) (hL : Has w bL 25 (fun _ => .slice none 0 0) 1) :
    Calls Tryz.prog 26 #[.pointer (some ⟨bT, 0, none⟩), .pointer (some ⟨bL, 0, none⟩)] w fun e w' => Kp bL bL w w' ∧
      ((∃ ad n cap gs cs, readA F (linesL l) = some cs ∧ e = .returned (.tuple #[]) ∧ Has w' bL 25 (fun _ => .slice ad n cap) 1 ∧ Cmds w.heap.size w' (.slice ad n cap) gs cs) ∨ (readA F (linesL l) = none ∧ Bad e ∧ Has w' bL 25 (fun _ => .slice none 0 0) 1)) := by
  have c0 : w.cell? ⟨bT, 0, none⟩ = some (.string (bs l)) := hT.cell 0 (by omega)
  have HG := hide hg
  clear hg
  go_enter Tryz.func26, Tryz.ntmps26
  go_wp2_with fail
  refine (read_any l _ hE hB hl HG.out).mono ?_
  rintro e w1 ⟨b1, ⟨v, gs, cs, hA, rfl, hC⟩ | ⟨hA, rfl⟩⟩
  · obtain ⟨ad, cap, rfl, _⟩ := hC.own.shape
    have hL1 := hL.below b1 hL.lt
    have c1 : w1.cell? ⟨bL, 0, none⟩ = some (.slice none 0 0) := hL1.cell 0 (by omega)
    have f1 := hL1.frozen 0
    have hbl := hL.lt
    generalize gs.length = n at hC
    have HL2 : Hid (Has (w1.setCell ⟨bL, 0, none⟩ (.slice ad n cap)) bL 25 (fun _ => .slice ad n cap) 1) := hide ((hL1.set 0 _).congr _ fun i hi => by
      obtain rfl : i = 0 := by omega
      rfl)
    have HK2 : Hid (Kp bL bL w (w1.setCell ⟨bL, 0, none⟩ (.slice ad n cap))) := hide ((Kp.of b1).trans (Kp.set _ _ _ (.inl rfl)))
    have HC2 : Hid (Cmds w.heap.size (w1.setCell ⟨bL, 0, none⟩ (.slice ad n cap)) (.slice ad n cap) gs cs) := hide (hC.kp (Kp.set _ ⟨bL, 0, none⟩ _ (.inl rfl) : Kp bL bL w1 _) hbl)
    have HA := hide hA
    clear hA hC b1 hL1
    go_wp2
    go_end0
    exact ⟨HK2.out, .inl ⟨_, _, _, _, _, HA.out, rfl, HL2.out, HC2.out⟩⟩
  · have HA := hide hA
    have HL2 := hide (hL.below b1 hL.lt)
    have HK2 : Hid (Kp bL bL w w1) := hide (Kp.of b1)
    clear hA b1
    go_wp2
    exact ⟨rfl, HK2.out, .inr ⟨HA.out, rfl, HL2.out⟩⟩
end Go.Proofs.YtepgoehpjafbhaaGreatDoor
/-
  script: Parse.
-/
namespace Go.Proofs.YtepgoehpjafbhaaGreatDoor
open Go.RowKit S
set_option linter.unusedVariables false
set_option linter.unusedSimpArgs false
set_option maxRecDepth 100000 in
set_option maxHeartbeats 800000 in
theorem triedP {E : Prop} {B : Nat} {F : Int → List UInt8} (bT bL : Nat) (l : List UInt8) (w : World) (hE : Env E B F w) (hB : B ≤ w.heap.size) (hl : l.length ≤ 65536) (hg : E ∨ ∀ x ∈ linesL l, noth x = false → lineT F x)
    (hT : Has w bT 9 (fun _ => .string (bs l)) 1) (hL : Has w bL 25 (fun _ => .slice none 0 0) 1) :
    Calls Tryz.prog 25 #[.func (Fn.func 26) #[] #[.pointer (some ⟨bT, 0, none⟩), .pointer (some ⟨bL, 0, none⟩)]] w fun e w' => Kp bL bL w w' ∧
      ((∃ ad n cap gs cs, readA F (linesL l) = some cs ∧ e = .returned (.int .i64 0) ∧ Has w' bL 25 (fun _ => .slice ad n cap) 1 ∧ Cmds w.heap.size w' (.slice ad n cap) gs cs) ∨ (readA F (linesL l) = none ∧ e = .returned (.int .i64 250) ∧ Has w' bL 25 (fun _ => .slice none 0 0) 1)) := by
  have hmf := mkF
  obtain ⟨w1, hw1⟩ : ∃ x, w.alloc (.cells #[.int .i64 0] 26) = x := ⟨_, rfl⟩
  have b1 : Below w.heap.size w w1 := by rw [← hw1]; exact (Below.refl _ w).alloc (Nat.le_refl _) _
  have s1 : w1.heap.size = w.heap.size + 1 := by rw [← hw1, size_alloc]
  have hN1 : Has w1 w.heap.size 26 (fun _ => .int .i64 0) 1 := by rw [← hw1]; exact Has.new w _ _ 1 _ rfl
  have hT1 := hT.below b1 hT.lt
  have hL1 := hL.below b1 hL.lt
  have hE1 := hE.below (b1.mono hB)
  have HG := hide hg
  clear hg
  go_enter_defers Tryz.func25, Tryz.ntmps25
  go_wp2_with fail
  have hbl := hL.lt
  refine (parse1_any bT bL l _ hE1 (by omega) hl HG.out hT1 hL1).mono ?_
  rintro e w2 ⟨k2, ⟨ad, n, cap, gs, cs, hA, rfl, hL2, hC2⟩ | ⟨hA, rfl, hL2⟩⟩
  · have hN2 := k2.has hN1 (by omega) (by omega)
    have c2 : w2.cell? ⟨w.heap.size, 0, none⟩ = some (.int .i64 0) := hN2.cell 0 (by omega)
    have f2 := hN2.frozen 0
    have hN3 := hN2.set 0 (.int .i64 0)
    have hL3 : Has (w2.setCell ⟨w.heap.size, 0, none⟩ (.int .i64 0)) bL 25 (fun _ => .slice ad n cap) 1 := hL2.other _ _ (show bL ≠ w.heap.size by omega)
    have k3 : Kp bL bL w (w2.setCell ⟨w.heap.size, 0, none⟩ (.int .i64 0)) := ⟨k2.os.trans b1.os, k2.tape.trans b1.tape, k2.output.trans b1.output, by simp [World.setCell]; have := k2.size; omega, fun i hi h1 h2 => (heap_setCell_other _ _ i _ (show i ≠ w.heap.size by omega)).trans ((k2.block i (by omega) h1 h2).trans (b1.block i hi))⟩
    have hC3 : Cmds w.heap.size (w2.setCell ⟨w.heap.size, 0, none⟩ (.int .i64 0)) (.slice ad n cap) gs cs := (hC2.kp (Kp.set _ ⟨w.heap.size, 0, none⟩ _ (.inl rfl) : Kp w.heap.size w.heap.size w2 _) (by omega)).mono (by omega)
    have c3 : (w2.setCell ⟨w.heap.size, 0, none⟩ (.int .i64 0)).cell? ⟨w.heap.size, 0, none⟩ = some (.int .i64 0) := hN3.cell 0 (by omega)
    have HL3 := hide hL3
    have HK3 := hide k3
    have HC3 := hide hC3
    have HA := hide hA
    clear hL3 k3 hC3 hA hN3 hL2 hC2 hN2 k2
    go_wp2
    refine leaves_cons (f := 36) (args := #[.pointer (some ⟨w.heap.size, 0, none⟩)]) (by simp) (by simp [go_sem]) ?_
    refine (catch_idle ⟨w.heap.size, 0, none⟩ _).mono ?_
    rintro e u' w'' ⟨rfl, rfl, rfl⟩
    simp [Leaves, settle, results, Tryz.results25, go_sem, c3]
    exact ⟨HK3.out, ad, n, cap, gs, cs, HA.out, HL3.out, HC3.out⟩
  · have hN2 := k2.has hN1 (by omega) (by omega)
    have HK2 := hide k2
    have HA := hide hA
    have HL2 := hide hL2
    have HN2 := hide hN2
    clear hA hL2 hN2 k2
    go_wp2
    refine leaves_cons (f := 36) (args := #[.pointer (some ⟨w.heap.size, 0, none⟩)]) (by simp) (by simp [go_sem]) ?_
    refine (catch_panicking w.heap.size _ HN2.out []).mono ?_
    rintro e u' w'' ⟨rfl, rfl, w3, b3, rfl⟩
    have hN3 := (HN2.out.below b3 HN2.out.lt).set 0 (.int .i64 250)
    have c3 : (w3.setCell ⟨w.heap.size, 0, none⟩ (.int .i64 250)).cell? ⟨w.heap.size, 0, none⟩ = some (.int .i64 250) := hN3.cell 0 (by omega)
    have k2 := HK2.out
    have hL3 : Has (w3.setCell ⟨w.heap.size, 0, none⟩ (.int .i64 250)) bL 25 (fun _ => .slice none 0 0) 1 := (HL2.out.below b3 HL2.out.lt).other _ _ (show bL ≠ w.heap.size by omega)
    have k3 : Kp bL bL w (w3.setCell ⟨w.heap.size, 0, none⟩ (.int .i64 250)) := ⟨b3.os.trans (k2.os.trans b1.os), b3.tape.trans (k2.tape.trans b1.tape), b3.output.trans (k2.output.trans b1.output), by simp [World.setCell]; have := k2.size; have := b3.size; omega, fun i hi h1 h2 => (heap_setCell_other _ _ i _ (show i ≠ w.heap.size by omega)).trans ((b3.block i (by have := k2.size; omega)).trans ((k2.block i (by omega) h1 h2).trans (b1.block i hi)))⟩
    simp [Leaves, settle, results, Tryz.results25, go_sem, c3]
    exact ⟨k3, HA.out, hL3⟩
/-- What Parse answers. -/
def parseA (F : Int → List UInt8) (l : List UInt8) : List Cd × Int := if tooL l then ([], 3) else match readA F (linesL l) with
  | some cs => (cs, 0)
  | none => ([], 250)
set_option maxRecDepth 100000 in
set_option maxHeartbeats 800000 in
theorem parse_all {E : Prop} {B : Nat} {F : Int → List UInt8} (l : List UInt8) (w : World) (hE : Env E B F w) (hB : B ≤ w.heap.size) (hl : l.length ≤ 65536) (hg : E ∨ ∀ x ∈ linesL l, noth x = false → lineT F x) :
    Calls Tryz.prog 11 #[.string (bs l)] w fun e w' => ∃ ad n cap gs, e = .returned (.tuple #[.slice ad n cap, .int .i64 (parseA F l).2]) ∧ Cmds w.heap.size w' (.slice ad n cap) gs (parseA F l).1 ∧ Below w.heap.size w w' := by
  have hmf := mkF
  obtain ⟨w1, hw1⟩ : ∃ x, w.alloc (.cells #[.string (bs l)] 9) = x := ⟨_, rfl⟩
  have b1 : Below w.heap.size w w1 := by rw [← hw1]; exact (Below.refl _ w).alloc (Nat.le_refl _) _
  have s1 : w1.heap.size = w.heap.size + 1 := by rw [← hw1, size_alloc]
  have hT1 : Has w1 w.heap.size 9 (fun _ => .string (bs l)) 1 := by rw [← hw1]; exact Has.new w _ _ 1 _ rfl
  have hE1 := hE.below (b1.mono hB)
  have c1 : w1.cell? ⟨w.heap.size, 0, none⟩ = some (.string (bs l)) := hT1.cell 0 (by omega)
  obtain ⟨R, hR⟩ : ∃ R, parseA F l = R := ⟨_, rfl⟩
  rw [hR]
  have HR := hide hR
  clear hR
  have HG := hide hg
  clear hg
  go_enter Tryz.func11, Tryz.ntmps11
  go_wp2_with fail
  refine (tooLong_any l _ hE1 hl).mono ?_
  rintro e w2 ⟨rfl, b2⟩
  have hT2 := hT1.below b2 hT1.lt
  have hE2 := hE1.below (b2.mono (by omega))
  have HB2 := hide (b1.trans (b2.mono (by omega)))
  have s2 := b2.size
  cases hto : tooL l with
  | true =>
    have HR2 : Hid (R = ([], 3)) := hide (by rw [← HR.out]; unfold parseA; rw [if_pos hto])
    clear hto b2
    go_wp2
    go_ret2
    rw [HR2.out]
    exact ⟨none, 0, 0, [], rfl, Cmds.nil _ _, HB2.out⟩
  | false =>
    have HR2 : Hid (R = match readA F (linesL l) with | some cs => (cs, 0) | none => ([], 250)) := hide (by rw [← HR.out]; unfold parseA; rw [if_neg (by rw [hto]; decide)])
    clear hto b2
    obtain ⟨w3, hw3⟩ : ∃ x, w2.alloc (.cells #[.slice none 0 0] 25) = x := ⟨_, rfl⟩
    have b3 : Below w2.heap.size w2 w3 := by rw [← hw3]; exact (Below.refl _ w2).alloc (Nat.le_refl _) _
    have s3 : w3.heap.size = w2.heap.size + 1 := by rw [← hw3, size_alloc]
    have hL3 : Has w3 w2.heap.size 25 (fun _ => .slice none 0 0) 1 := by rw [← hw3]; exact Has.new w2 _ _ 1 _ rfl
    have hT3 := hT2.below b3 hT2.lt
    have hE3 := hE2.below (b3.mono (by omega))
    have HB3 := hide (HB2.out.trans (b3.mono (by omega)))
    go_wp2_with fail
    refine (triedP w.heap.size w2.heap.size l _ hE3 (by omega) hl HG.out hT3 hL3).mono ?_
    rintro e w4 ⟨k4, ⟨ad, n, cap, gs, cs, hA, rfl, hL4, hC4⟩ | ⟨hA, rfl, hL4⟩⟩
    · have c4 : w4.cell? ⟨w2.heap.size, 0, none⟩ = some (.slice ad n cap) := hL4.cell 0 (by omega)
      have HR3 : Hid (R = (cs, 0)) := hide (by rw [HR2.out, hA])
      have HC4 := hide (hC4.mono (show w.heap.size ≤ w3.heap.size by omega))
      have HB4 := hide (HB3.out.trans (k4.below (B := w.heap.size) (by omega) (by omega) (by omega)))
      clear hA hC4 k4 hL4
      go_wp2
      go_ret2
      rw [HR3.out]
      exact ⟨ad, n, cap, gs, rfl, HC4.out, HB4.out⟩
    · have c4 : w4.cell? ⟨w2.heap.size, 0, none⟩ = some (.slice none 0 0) := hL4.cell 0 (by omega)
      have HR3 : Hid (R = ([], 250)) := hide (by rw [HR2.out, hA])
      have HB4 := hide (HB3.out.trans (k4.below (B := w.heap.size) (by omega) (by omega) (by omega)))
      clear hA k4 hL4
      go_wp2
      go_ret2
      rw [HR3.out]
      exact ⟨none, 0, 0, [], rfl, Cmds.nil _ _, HB4.out⟩
end Go.Proofs.YtepgoehpjafbhaaGreatDoor
