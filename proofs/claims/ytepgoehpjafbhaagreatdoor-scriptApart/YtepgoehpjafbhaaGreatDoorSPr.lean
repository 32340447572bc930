/-
  script: Print.
-/
import Derived.Test.YtepgoehpjafbhaaGreatDoorSWw
import Derived.Test.YtepgoehpjafbhaaGreatDoorSPa
namespace Go.Proofs.YtepgoehpjafbhaaGreatDoor
open Go.RowKit S
set_option linter.unusedVariables false
set_option linter.unusedSimpArgs false
theorem CsIn.below {w w' : World} {ad : Option Addr} {cs : List Cd} (h : CsIn w ad cs) (k : Below w.heap.size w w') : CsIn w' ad cs := by
  refine ⟨fun i c hc => ?_, h.2.imp id fun ⟨kb, o, h1, h2, h3⟩ => ⟨kb, o, h1, Nat.lt_of_lt_of_le h2 k.size, fun i c hc => (h3 i c hc).blk (k.block kb h2)⟩⟩
  obtain ⟨h1, h2, h3, ad', cap, h4, h5⟩ := h.1 i c hc
  exact ⟨h1, h2, h3, ad', cap, h4, h5.1, h5.2.imp id fun ⟨kb, o, h1, h2, h3⟩ => ⟨kb, o, h1, Nat.lt_of_lt_of_le h2 k.size, fun i c hc => (h3 i c hc).blk (k.block kb h2)⟩⟩
set_option maxRecDepth 100000 in
theorem print1_any {E : Prop} {B : Nat} {F : Int → List UInt8} (bT bS bG : Nat) (ad : Option Addr) (cap : Nat) (cs : List Cd) (w : World) (hE : EnvW E B F w) (hB : B ≤ w.heap.size) (hS : CsIn w ad cs) (hl : cs.length ≤ 140737488355328)
    (hT : Has w bT 25 (fun _ => .slice ad cs.length cap) 1) (hL : Has w bS 9 (fun _ => .string ⟨#[]⟩) 1) (hG : Has w bG 4 (fun _ => .bool false) 1) (hne : bS ≠ bG) :
    Calls Tryz.prog 28 #[.pointer (some ⟨bT, 0, none⟩), .pointer (some ⟨bS, 0, none⟩), .pointer (some ⟨bG, 0, none⟩)] w fun e w' => Kp bS bG w w' ∧
      ((∃ y, linesW F cs ([], false) = some y ∧ e = .returned (.tuple #[]) ∧ Has w' bS 9 (fun _ => .string (bs y.1)) 1 ∧ Has w' bG 4 (fun _ => .bool (y.2 || tooL y.1)) 1 ∧ y.1.length ≤ 65536) ∨ (linesW F cs ([], false) = none ∧ Bad e ∧ Has w' bS 9 (fun _ => .string ⟨#[]⟩) 1 ∧ Has w' bG 4 (fun _ => .bool false) 1)) := by
  have c0 : w.cell? ⟨bT, 0, none⟩ = some (.slice ad cs.length cap) := hT.cell 0 (by omega)
  go_enter Tryz.func28, Tryz.ntmps28
  go_wp2_with fail
  refine (written_any ad cap cs _ hE hB hS hl).mono ?_
  rintro e w1 ⟨b1, ⟨y, hA, rfl, hy⟩ | ⟨hA, rfl⟩⟩
  · have hL1 := hL.below b1 hL.lt
    have hG1 := hG.below b1 hG.lt
    have c1 : w1.cell? ⟨bS, 0, none⟩ = some (.string ⟨#[]⟩) := hL1.cell 0 (by omega)
    have f1 := hL1.frozen 0
    generalize hlg : (y.2 || tooL y.1) = lg
    have hL2 := hL1.set 0 (.string (bs y.1))
    have hG2 := hG1.other ⟨bS, 0, none⟩ (.string (bs y.1)) (show bG ≠ bS from Ne.symm hne)
    have c2 : (w1.setCell ⟨bS, 0, none⟩ (.string (bs y.1))).cell? ⟨bG, 0, none⟩ = some (.bool false) := hG2.cell 0 (by omega)
    have f2 := hG2.frozen 0
    have HL3 : Hid (Has ((w1.setCell ⟨bS, 0, none⟩ (.string (bs y.1))).setCell ⟨bG, 0, none⟩ (.bool lg)) bS 9 (fun _ => .string (bs y.1)) 1) := hide ((hL2.congr (fun _ => .string (bs y.1)) fun i hi => by
      obtain rfl : i = 0 := by omega
      rfl).other _ _ (show bS ≠ bG from hne))
    have HG3 : Hid (Has ((w1.setCell ⟨bS, 0, none⟩ (.string (bs y.1))).setCell ⟨bG, 0, none⟩ (.bool lg)) bG 4 (fun _ => .bool lg) 1) := hide ((hG2.set 0 _).congr _ fun i hi => by
      obtain rfl : i = 0 := by omega
      rfl)
    have HK2 : Hid (Kp bS bG w ((w1.setCell ⟨bS, 0, none⟩ (.string (bs y.1))).setCell ⟨bG, 0, none⟩ (.bool lg))) := hide (((Kp.of b1 : Kp bS bG w w1).trans (Kp.set _ ⟨bS, 0, none⟩ _ (.inl rfl))).trans (Kp.set _ ⟨bG, 0, none⟩ _ (.inr rfl)))
    have HA := hide hA
    clear hA b1 hL1 hG1 hL2 hG2
    go_wp2
    go_end0
    exact ⟨HK2.out, .inl ⟨_, HA.out, rfl, HL3.out, by rw [hlg]; exact HG3.out, hy⟩⟩
  · have HA := hide hA
    have HL2 := hide (hL.below b1 hL.lt)
    have HG2 := hide (hG.below b1 hG.lt)
    have HK2 : Hid (Kp bS bG w w1) := hide (Kp.of b1)
    clear hA b1
    go_wp2
    exact ⟨rfl, HK2.out, .inr ⟨HA.out, rfl, HL2.out, HG2.out⟩⟩
set_option maxRecDepth 100000 in
set_option maxHeartbeats 800000 in
theorem triedQ {E : Prop} {B : Nat} {F : Int → List UInt8} (bT bS bG : Nat) (ad : Option Addr) (cap : Nat) (cs : List Cd) (w : World) (hE : EnvW E B F w) (hB : B ≤ w.heap.size) (hS : CsIn w ad cs) (hl : cs.length ≤ 140737488355328)
    (hT : Has w bT 25 (fun _ => .slice ad cs.length cap) 1) (hL : Has w bS 9 (fun _ => .string ⟨#[]⟩) 1) (hG : Has w bG 4 (fun _ => .bool false) 1) (hne : bS ≠ bG) :
    Calls Tryz.prog 25 #[.func (Fn.func 28) #[] #[.pointer (some ⟨bT, 0, none⟩), .pointer (some ⟨bS, 0, none⟩), .pointer (some ⟨bG, 0, none⟩)]] w fun e w' => Kp bS bG w w' ∧
      ((∃ y, linesW F cs ([], false) = some y ∧ e = .returned (.int .i64 0) ∧ Has w' bS 9 (fun _ => .string (bs y.1)) 1 ∧ Has w' bG 4 (fun _ => .bool (y.2 || tooL y.1)) 1 ∧ y.1.length ≤ 65536) ∨ (linesW F cs ([], false) = none ∧ e = .returned (.int .i64 250) ∧ Has w' bS 9 (fun _ => .string ⟨#[]⟩) 1 ∧ Has w' bG 4 (fun _ => .bool false) 1)) := by
  have hmf := mkF
  obtain ⟨w1, hw1⟩ : ∃ x, w.alloc (.cells #[.int .i64 0] 26) = x := ⟨_, rfl⟩
  have b1 : Below w.heap.size w w1 := by rw [← hw1]; exact (Below.refl _ w).alloc (Nat.le_refl _) _
  have s1 : w1.heap.size = w.heap.size + 1 := by rw [← hw1, size_alloc]
  have hN1 : Has w1 w.heap.size 26 (fun _ => .int .i64 0) 1 := by rw [← hw1]; exact Has.new w _ _ 1 _ rfl
  have hT1 := hT.below b1 hT.lt
  have hL1 := hL.below b1 hL.lt
  have hG1 := hG.below b1 hG.lt
  have hE1 := hE.below (b1.mono hB)
  have hS1 := hS.below b1
  have hbl := hL.lt
  have hgl := hG.lt
  go_enter_defers Tryz.func25, Tryz.ntmps25
  go_wp2_with fail
  refine (print1_any bT bS bG ad cap cs _ hE1 (by omega) hS1 hl hT1 hL1 hG1 hne).mono ?_
  rintro e w2 ⟨k2, ⟨y, hA, rfl, hL2, hG2, hy⟩ | ⟨hA, rfl, hL2, hG2⟩⟩
  · have hN2 := k2.has hN1 (by omega) (by omega)
    have c2 : w2.cell? ⟨w.heap.size, 0, none⟩ = some (.int .i64 0) := hN2.cell 0 (by omega)
    have f2 := hN2.frozen 0
    have hN3 := hN2.set 0 (.int .i64 0)
    have hL3 := hL2.other ⟨w.heap.size, 0, none⟩ (.int .i64 0) (show bS ≠ w.heap.size by omega)
    have hG3 := hG2.other ⟨w.heap.size, 0, none⟩ (.int .i64 0) (show bG ≠ w.heap.size by omega)
    have k3 : Kp bS bG w (w2.setCell ⟨w.heap.size, 0, none⟩ (.int .i64 0)) := ⟨k2.os.trans b1.os, k2.tape.trans b1.tape, k2.output.trans b1.output, by simp [World.setCell]; have := k2.size; omega, fun i hi h1 h2 => (heap_setCell_other _ _ i _ (show i ≠ w.heap.size by omega)).trans ((k2.block i (by omega) h1 h2).trans (b1.block i hi))⟩
    have c3 : (w2.setCell ⟨w.heap.size, 0, none⟩ (.int .i64 0)).cell? ⟨w.heap.size, 0, none⟩ = some (.int .i64 0) := hN3.cell 0 (by omega)
    have HL3 := hide hL3
    have HG3 := hide hG3
    have HK3 := hide k3
    have HA := hide hA
    clear hL3 hG3 k3 hA hN3 hL2 hG2 hN2 k2
    go_wp2
    refine leaves_cons (f := 36) (args := #[.pointer (some ⟨w.heap.size, 0, none⟩)]) (by simp) (by simp [go_sem]) ?_
    refine (catch_idle ⟨w.heap.size, 0, none⟩ _).mono ?_
    rintro e u' w'' ⟨rfl, rfl, rfl⟩
    simp only [Leaves, settle, results, Tryz.results25]
    simp [go_sem, c3, -Bool.or_eq_true, -Prod.exists]
    exact ⟨HK3.out, y, HA.out, HL3.out, HG3.out, hy⟩
  · have hN2 := k2.has hN1 (by omega) (by omega)
    have HK2 := hide k2
    have HA := hide hA
    have HL2 := hide hL2
    have HG2 := hide hG2
    have HN2 := hide hN2
    clear hA hL2 hG2 hN2 k2
    go_wp2
    refine leaves_cons (f := 36) (args := #[.pointer (some ⟨w.heap.size, 0, none⟩)]) (by simp) (by simp [go_sem]) ?_
    refine (catch_panicking w.heap.size _ HN2.out []).mono ?_
    rintro e u' w'' ⟨rfl, rfl, w3, b3, rfl⟩
    have hN3 := (HN2.out.below b3 HN2.out.lt).set 0 (.int .i64 250)
    have c3 : (w3.setCell ⟨w.heap.size, 0, none⟩ (.int .i64 250)).cell? ⟨w.heap.size, 0, none⟩ = some (.int .i64 250) := hN3.cell 0 (by omega)
    have k2 := HK2.out
    have hL3 := (HL2.out.below b3 HL2.out.lt).other ⟨w.heap.size, 0, none⟩ (.int .i64 250) (show bS ≠ w.heap.size by omega)
    have hG3 := (HG2.out.below b3 HG2.out.lt).other ⟨w.heap.size, 0, none⟩ (.int .i64 250) (show bG ≠ w.heap.size by omega)
    have k3 : Kp bS bG w (w3.setCell ⟨w.heap.size, 0, none⟩ (.int .i64 250)) := ⟨b3.os.trans (k2.os.trans b1.os), b3.tape.trans (k2.tape.trans b1.tape), b3.output.trans (k2.output.trans b1.output), by simp [World.setCell]; have := k2.size; have := b3.size; omega, fun i hi h1 h2 => (heap_setCell_other _ _ i _ (show i ≠ w.heap.size by omega)).trans ((b3.block i (by have := k2.size; omega)).trans ((k2.block i (by omega) h1 h2).trans (b1.block i hi)))⟩
    simp [Leaves, settle, results, Tryz.results25, go_sem, c3]
    exact ⟨k3, HA.out, hL3, hG3⟩
/-- What Print answers. -/
def printA (F : Int → List UInt8) (cs : List Cd) : List UInt8 × Int := match linesW F cs ([], false) with
  | some y => if y.2 || tooL y.1 then ([], 3) else (y.1, 0)
  | none => ([], 250)
set_option maxRecDepth 100000 in
set_option maxHeartbeats 800000 in
theorem print_any {E : Prop} {B : Nat} {F : Int → List UInt8} (ad : Option Addr) (cap : Nat) (cs : List Cd) (w : World) (hE : EnvW E B F w) (hB : B ≤ w.heap.size) (hS : CsIn w ad cs) (hl : cs.length ≤ 140737488355328) :
    Calls Tryz.prog 12 #[.slice ad cs.length cap] w fun e w' => e = .returned (.tuple #[.string (bs (printA F cs).1), .int .i64 (printA F cs).2]) ∧ (printA F cs).1.length ≤ 65536 ∧ Below w.heap.size w w' := by
  have hmf := mkF
  obtain ⟨R, hR⟩ : ∃ R, printA F cs = R := ⟨_, rfl⟩
  rw [hR]
  have HR := hide hR
  clear hR
  obtain ⟨w1, hw1⟩ : ∃ x, w.alloc (.cells #[.slice ad cs.length cap] 25) = x := ⟨_, rfl⟩
  have b1 : Below w.heap.size w w1 := by rw [← hw1]; exact (Below.refl _ w).alloc (Nat.le_refl _) _
  have s1 : w1.heap.size = w.heap.size + 1 := by rw [← hw1, size_alloc]
  have hT1 : Has w1 w.heap.size 25 (fun _ => .slice ad cs.length cap) 1 := by rw [← hw1]; exact Has.new w _ _ 1 _ rfl
  obtain ⟨w2, hw2⟩ : ∃ x, w1.alloc (.cells #[.string ⟨#[]⟩] 9) = x := ⟨_, rfl⟩
  have b2 : Below w1.heap.size w1 w2 := by rw [← hw2]; exact (Below.refl _ w1).alloc (Nat.le_refl _) _
  have s2 : w2.heap.size = w1.heap.size + 1 := by rw [← hw2, size_alloc]
  have hL2 : Has w2 w1.heap.size 9 (fun _ => .string ⟨#[]⟩) 1 := by rw [← hw2]; exact Has.new w1 _ _ 1 _ rfl
  obtain ⟨w3, hw3⟩ : ∃ x, w2.alloc (.cells #[.bool false] 4) = x := ⟨_, rfl⟩
  have b3 : Below w2.heap.size w2 w3 := by rw [← hw3]; exact (Below.refl _ w2).alloc (Nat.le_refl _) _
  have s3 : w3.heap.size = w2.heap.size + 1 := by rw [← hw3, size_alloc]
  have hG3 : Has w3 w2.heap.size 4 (fun _ => .bool false) 1 := by rw [← hw3]; exact Has.new w2 _ _ 1 _ rfl
  have b03 : Below w.heap.size w w3 := (b1.trans (b2.mono (by omega))).trans (b3.mono (by omega))
  have hT3 := (hT1.below b2 hT1.lt).below b3 (by have := hT1.lt; omega)
  have hL3 := hL2.below b3 hL2.lt
  have hE3 := hE.below (b03.mono hB)
  have hS3 := hS.below b03
  rw [show w1.heap.size = w.heap.size + 1 from s1] at hL3 s2
  rw [show w2.heap.size = w.heap.size + 1 + 1 from s2] at hG3 s3
  have HB3 := hide b03
  have HW3 : Hid (((w.alloc (.cells #[.slice ad cs.length cap] 25)).alloc (.cells #[.string ⟨#[]⟩] 9)).alloc (.cells #[.bool false] 4) = w3) := hide (by rw [hw1, hw2, hw3])
  clear hw1 hw2 hw3 b1 b2 b3 b03 hT1 hL2
  go_enter Tryz.func12, Tryz.ntmps12
  go_wp2_with (rw [HW3.out])
  refine (triedQ w.heap.size (w.heap.size + 1) (w.heap.size + 1 + 1) ad cap cs _ hE3 (by omega) hS3 hl hT3 hL3 hG3 (by omega)).mono ?_
  rintro e w4 ⟨k4, ⟨y, hA, rfl, hL4, hG4, hy⟩ | ⟨hA, rfl, hL4, hG4⟩⟩
  · have c4 : w4.cell? ⟨w.heap.size + 1, 0, none⟩ = some (.string (bs y.1)) := hL4.cell 0 (by omega)
    have c5 : w4.cell? ⟨w.heap.size + 1 + 1, 0, none⟩ = some (.bool (y.2 || tooL y.1)) := hG4.cell 0 (by omega)
    have HR3 : Hid (R = if y.2 || tooL y.1 then ([], 3) else (y.1, 0)) := hide (by rw [← HR.out]; unfold printA; rw [hA])
    have HB4 := hide (HB3.out.trans (k4.below (B := w.heap.size) (by omega) (by omega) (by omega)))
    clear hA k4 hL4 hG4
    generalize (y.2 || tooL y.1) = lg at c5 HR3
    cases lg with
    | true =>
      go_wp2
      go_ret2
      rw [HR3.out]
      exact ⟨rfl, by simp, HB4.out⟩
    | false =>
      go_wp2
      go_ret2
      rw [HR3.out]
      exact ⟨rfl, hy, HB4.out⟩
  · have c4 : w4.cell? ⟨w.heap.size + 1, 0, none⟩ = some (.string ⟨#[]⟩) := hL4.cell 0 (by omega)
    have c5 : w4.cell? ⟨w.heap.size + 1 + 1, 0, none⟩ = some (.bool false) := hG4.cell 0 (by omega)
    have HR3 : Hid (R = ([], 250)) := hide (by rw [← HR.out]; unfold printA; rw [hA])
    have HB4 := hide (HB3.out.trans (k4.below (B := w.heap.size) (by omega) (by omega) (by omega)))
    clear hA k4 hL4 hG4
    go_wp2
    go_ret2
    rw [HR3.out]
    exact ⟨rfl, by simp, HB4.out⟩
end Go.Proofs.YtepgoehpjafbhaaGreatDoor
