/-
  The power: count, Arm, Fall, Off; New; find.
-/
import Derived.Test.YtlkimfmilccanaaGreatSmall
namespace Go.Proofs.YtlkimfmilccanaaGreat
open Go.RowKit Go.Maps
theorem AP.Ok.count {P : AP} (h : P.Ok) (x : Int) : (P.count x).2.Ok := by
  have h1 := h.a0; have h2 := h.a1; have h3 := h.f0; have h4 := h.f1; have h5 := h.w0; have h6 := h.w1
  have h7 : 0 ≤ P.fell ∧ P.fell < 9223372036854775808 := by unfold AP.fell; split <;> omega
  unfold AP.count
  split
  · exact ⟨h1, h2, by simp, by simp, h5, h6⟩
  · split
    · exact ⟨by simp only; omega, by simp only; omega, h7.1, h7.2, h5, h6⟩
    · exact ⟨h1, h2, h7.1, h7.2, h5, h6⟩
/-- The struct of a disk. -/
def DCells (w : World) (p m : Nat) (cap : Int) (P : AP) : Prop := w.heap[p]? = some (.cells #[.int .i64 cap, .map (some m), .bool P.off, .bool P.opn, .int .i64 P.arm, .int .i64 P.what, .int .i64 P.fall] 86 (0, 0))
section
variable {w : World} {p m : Nat} {cap : Int} {P : AP}
theorem DCells.off (h : DCells w p m cap P) (x : Bool) : DCells (w.setCell ⟨p, 2, none⟩ (.bool x)) p m cap { P with off := x } := by
  unfold DCells; rw [heap_setCell_same w p 2 _ _ _ h]; rfl
theorem DCells.opn (h : DCells w p m cap P) (x : Bool) : DCells (w.setCell ⟨p, 3, none⟩ (.bool x)) p m cap { P with opn := x } := by
  unfold DCells; rw [heap_setCell_same w p 3 _ _ _ h]; rfl
theorem DCells.arm (h : DCells w p m cap P) (x : Int) : DCells (w.setCell ⟨p, 4, none⟩ (.int .i64 x)) p m cap { P with arm := x } := by
  unfold DCells; rw [heap_setCell_same w p 4 _ _ _ h]; rfl
theorem DCells.what (h : DCells w p m cap P) (x : Int) : DCells (w.setCell ⟨p, 5, none⟩ (.int .i64 x)) p m cap { P with what := x } := by
  unfold DCells; rw [heap_setCell_same w p 5 _ _ _ h]; rfl
theorem DCells.fall (h : DCells w p m cap P) (x : Int) : DCells (w.setCell ⟨p, 6, none⟩ (.int .i64 x)) p m cap { P with fall := x } := by
  unfold DCells; rw [heap_setCell_same w p 6 _ _ _ h]; rfl
end
theorem tset {w w1 : World} {p : Nat} (h : Turn (fun b => b = p) w w1) (i : Nat) (v : Value) : Turn (fun b => b = p) w (w1.setCell ⟨p, i, none⟩ v) :=
  h.trans (Turn.setCell w1 ⟨p, i, none⟩ v) (fun _ hb => .inl hb)
set_option maxRecDepth 5000 in
set_option maxHeartbeats 800000 in
theorem count_any (p m : Nat) (con : Key → FC) (A : AD) (w : World) (h : DiskAt w p m con A) (x : Int) :
    Calls Tryz.prog 44 #[.pointer (some ⟨p, 2, none⟩), .int .i64 x] w fun e w' => e = .returned (.int .i64 (A.pow.count x).1) ∧ DiskAt w' p m con { A with pow := (A.pow.count x).2 } ∧ Turn (fun b => b = p) w w' := by
  have HH := hide h
  have HO := hide h.ok.pow
  have HD : Hid (DCells w p m A.cap A.pow) := h.cells
  have c4 := h.c4
  have c5 := h.c5
  have c6 := h.c6
  have c2 := h.c2
  have c3 := h.c3
  have f2 := h.fz 2
  have f3 := h.fz 3
  have f4 := h.fz 4
  have f6 := h.fz 6
  have T0 := Turn.refl (fun b => b = p) w
  clear h
  obtain ⟨cap, fs, P⟩ := A
  obtain ⟨off, opn, arm, what, fall⟩ := P
  simp only at c2 c3 c4 c5 c6 HD HO ⊢
  have q1 := HO.out.a0; have q2 := HO.out.a1; have q3 := HO.out.f0; have q4 := HO.out.f1
  simp only at q1 q2 q3 q4
  by_cases hf1 : fall = 1
  · subst hf1
    have e : AP.count ⟨off, opn, arm, what, 1⟩ x = (9, ⟨true, true, arm, what, 0⟩) := rfl
    rw [e]
    go_enter Tryz.func44, Tryz.ntmps44
    go_wp2
    go_ret
    have t := tset (tset (tset T0 6 (.int .i64 0)) 2 (.bool true)) 3 (.bool true)
    exact ⟨rfl, HH.out.setPow ⟨q1, q2, by simp, by simp, HO.out.w0, HO.out.w1⟩ t (((HD.out.fall 0).off true).opn true), t⟩
  · by_cases hf0 : 0 < fall
    · have df : decide (0 < fall) = true := decide_eq_true hf0
      have dg : (fall - 1 == 0) = false := beq_eq_false_iff_ne.2 (by omega)
      by_cases ha0 : 0 < arm
      · have da : decide (0 < arm) = true := decide_eq_true ha0
        by_cases hw : what = 0 ∨ what = x
        · have dw : (what == 0) = true ∨ ((what == 0) = false ∧ (what == x) = true) := by
            by_cases hw0 : what = 0
            · exact .inl (beq_iff_eq.2 hw0)
            · exact .inr ⟨beq_eq_false_iff_ne.2 hw0, beq_iff_eq.2 (hw.resolve_left hw0)⟩
          by_cases ha1 : arm = 1
          · rcases dw with dw | ⟨dw, dv⟩
            · subst ha1
              have e : AP.count ⟨off, opn, 1, what, fall⟩ x = (40, ⟨off, opn, 0, what, fall - 1⟩) := by
                unfold AP.count AP.fell; simp only; rw [if_neg hf1, if_pos (by omega), if_pos hf0]; rfl
              rw [e]
              go_enter Tryz.func44, Tryz.ntmps44
              go_wp2
              go_ret
              have t := tset (tset T0 6 (.int .i64 (fall - 1))) 4 (.int .i64 0)
              exact ⟨rfl, HH.out.setPow ⟨by simp only; omega, by simp only; omega, by simp only; omega, by simp only; omega, HO.out.w0, HO.out.w1⟩ t ((HD.out.fall (fall - 1)).arm 0), t⟩
            · subst ha1
              have e : AP.count ⟨off, opn, 1, what, fall⟩ x = (40, ⟨off, opn, 0, what, fall - 1⟩) := by
                unfold AP.count AP.fell; simp only; rw [if_neg hf1, if_pos (by omega), if_pos hf0]; rfl
              rw [e]
              go_enter Tryz.func44, Tryz.ntmps44
              go_wp2
              go_ret
              have t := tset (tset T0 6 (.int .i64 (fall - 1))) 4 (.int .i64 0)
              exact ⟨rfl, HH.out.setPow ⟨by simp only; omega, by simp only; omega, by simp only; omega, by simp only; omega, HO.out.w0, HO.out.w1⟩ t ((HD.out.fall (fall - 1)).arm 0), t⟩
          · have d1 : (arm - 1 == 0) = false := beq_eq_false_iff_ne.2 (by omega)
            rcases dw with dw | ⟨dw, dv⟩
            · have e : AP.count ⟨off, opn, arm, what, fall⟩ x = (0, ⟨off, opn, arm - 1, what, fall - 1⟩) := by
                unfold AP.count AP.fell; simp only; rw [if_neg hf1, if_pos (by omega), if_pos hf0, if_neg (by omega)]
              rw [e]
              go_enter Tryz.func44, Tryz.ntmps44
              go_wp2
              go_ret
              have t := tset (tset T0 6 (.int .i64 (fall - 1))) 4 (.int .i64 (arm - 1))
              exact ⟨rfl, HH.out.setPow ⟨by simp only; omega, by simp only; omega, by simp only; omega, by simp only; omega, HO.out.w0, HO.out.w1⟩ t ((HD.out.fall (fall - 1)).arm (arm - 1)), t⟩
            · have e : AP.count ⟨off, opn, arm, what, fall⟩ x = (0, ⟨off, opn, arm - 1, what, fall - 1⟩) := by
                unfold AP.count AP.fell; simp only; rw [if_neg hf1, if_pos (by omega), if_pos hf0, if_neg (by omega)]
              rw [e]
              go_enter Tryz.func44, Tryz.ntmps44
              go_wp2
              go_ret
              have t := tset (tset T0 6 (.int .i64 (fall - 1))) 4 (.int .i64 (arm - 1))
              exact ⟨rfl, HH.out.setPow ⟨by simp only; omega, by simp only; omega, by simp only; omega, by simp only; omega, HO.out.w0, HO.out.w1⟩ t ((HD.out.fall (fall - 1)).arm (arm - 1)), t⟩
        · have dw : (what == 0) = false := beq_eq_false_iff_ne.2 (by omega)
          have dv : (what == x) = false := beq_eq_false_iff_ne.2 (by omega)
          have e : AP.count ⟨off, opn, arm, what, fall⟩ x = (0, ⟨off, opn, arm, what, fall - 1⟩) := by
            unfold AP.count AP.fell; simp only; rw [if_neg hf1, if_neg (by omega), if_pos hf0]
          rw [e]
          go_enter Tryz.func44, Tryz.ntmps44
          go_wp2
          go_ret
          have t := tset T0 6 (.int .i64 (fall - 1))
          exact ⟨rfl, HH.out.setPow ⟨by simp only; omega, by simp only; omega, by simp only; omega, by simp only; omega, HO.out.w0, HO.out.w1⟩ t (HD.out.fall (fall - 1)), t⟩
      · have da : decide (0 < arm) = false := decide_eq_false ha0
        have e : AP.count ⟨off, opn, arm, what, fall⟩ x = (0, ⟨off, opn, arm, what, fall - 1⟩) := by
          unfold AP.count AP.fell; simp only; rw [if_neg hf1, if_neg (by omega), if_pos hf0]
        rw [e]
        go_enter Tryz.func44, Tryz.ntmps44
        go_wp2
        go_ret
        have t := tset T0 6 (.int .i64 (fall - 1))
        exact ⟨rfl, HH.out.setPow ⟨by simp only; omega, by simp only; omega, by simp only; omega, by simp only; omega, HO.out.w0, HO.out.w1⟩ t (HD.out.fall (fall - 1)), t⟩
    · have df : decide (0 < fall) = false := decide_eq_false hf0
      by_cases ha0 : 0 < arm
      · have da : decide (0 < arm) = true := decide_eq_true ha0
        by_cases hw : what = 0 ∨ what = x
        · have dw : (what == 0) = true ∨ ((what == 0) = false ∧ (what == x) = true) := by
            by_cases hw0 : what = 0
            · exact .inl (beq_iff_eq.2 hw0)
            · exact .inr ⟨beq_eq_false_iff_ne.2 hw0, beq_iff_eq.2 (hw.resolve_left hw0)⟩
          by_cases ha1 : arm = 1
          · rcases dw with dw | ⟨dw, dv⟩
            · subst ha1
              have e : AP.count ⟨off, opn, 1, what, fall⟩ x = (40, ⟨off, opn, 0, what, fall⟩) := by
                unfold AP.count AP.fell; simp only; rw [if_neg hf1, if_pos (by omega), if_neg hf0]; rfl
              rw [e]
              go_enter Tryz.func44, Tryz.ntmps44
              go_wp2
              go_ret
              have t := tset (T0) 4 (.int .i64 0)
              exact ⟨rfl, HH.out.setPow ⟨by simp only; omega, by simp only; omega, by simp only; omega, by simp only; omega, HO.out.w0, HO.out.w1⟩ t (HD.out.arm 0), t⟩
            · subst ha1
              have e : AP.count ⟨off, opn, 1, what, fall⟩ x = (40, ⟨off, opn, 0, what, fall⟩) := by
                unfold AP.count AP.fell; simp only; rw [if_neg hf1, if_pos (by omega), if_neg hf0]; rfl
              rw [e]
              go_enter Tryz.func44, Tryz.ntmps44
              go_wp2
              go_ret
              have t := tset (T0) 4 (.int .i64 0)
              exact ⟨rfl, HH.out.setPow ⟨by simp only; omega, by simp only; omega, by simp only; omega, by simp only; omega, HO.out.w0, HO.out.w1⟩ t (HD.out.arm 0), t⟩
          · have d1 : (arm - 1 == 0) = false := beq_eq_false_iff_ne.2 (by omega)
            rcases dw with dw | ⟨dw, dv⟩
            · have e : AP.count ⟨off, opn, arm, what, fall⟩ x = (0, ⟨off, opn, arm - 1, what, fall⟩) := by
                unfold AP.count AP.fell; simp only; rw [if_neg hf1, if_pos (by omega), if_neg hf0, if_neg (by omega)]
              rw [e]
              go_enter Tryz.func44, Tryz.ntmps44
              go_wp2
              go_ret
              have t := tset (T0) 4 (.int .i64 (arm - 1))
              exact ⟨rfl, HH.out.setPow ⟨by simp only; omega, by simp only; omega, by simp only; omega, by simp only; omega, HO.out.w0, HO.out.w1⟩ t (HD.out.arm (arm - 1)), t⟩
            · have e : AP.count ⟨off, opn, arm, what, fall⟩ x = (0, ⟨off, opn, arm - 1, what, fall⟩) := by
                unfold AP.count AP.fell; simp only; rw [if_neg hf1, if_pos (by omega), if_neg hf0, if_neg (by omega)]
              rw [e]
              go_enter Tryz.func44, Tryz.ntmps44
              go_wp2
              go_ret
              have t := tset (T0) 4 (.int .i64 (arm - 1))
              exact ⟨rfl, HH.out.setPow ⟨by simp only; omega, by simp only; omega, by simp only; omega, by simp only; omega, HO.out.w0, HO.out.w1⟩ t (HD.out.arm (arm - 1)), t⟩
        · have dw : (what == 0) = false := beq_eq_false_iff_ne.2 (by omega)
          have dv : (what == x) = false := beq_eq_false_iff_ne.2 (by omega)
          have e : AP.count ⟨off, opn, arm, what, fall⟩ x = (0, ⟨off, opn, arm, what, fall⟩) := by
            unfold AP.count AP.fell; simp only; rw [if_neg hf1, if_neg (by omega), if_neg hf0]
          rw [e]
          go_enter Tryz.func44, Tryz.ntmps44
          go_wp2
          go_ret
          have t := T0
          exact ⟨rfl, HH.out.setPow ⟨by simp only; omega, by simp only; omega, by simp only; omega, by simp only; omega, HO.out.w0, HO.out.w1⟩ t HD.out, t⟩
      · have da : decide (0 < arm) = false := decide_eq_false ha0
        have e : AP.count ⟨off, opn, arm, what, fall⟩ x = (0, ⟨off, opn, arm, what, fall⟩) := by
          unfold AP.count AP.fell; simp only; rw [if_neg hf1, if_neg (by omega), if_neg hf0]
        rw [e]
        go_enter Tryz.func44, Tryz.ntmps44
        go_wp2
        go_ret
        have t := T0
        exact ⟨rfl, HH.out.setPow ⟨by simp only; omega, by simp only; omega, by simp only; omega, by simp only; omega, HO.out.w0, HO.out.w1⟩ t HD.out, t⟩
end Go.Proofs.YtlkimfmilccanaaGreat
