/-
  lengthBehind.
-/
import Derived.Test.YtlkimfmilccanaaGreatFates
namespace Go.Proofs.YtlkimfmilccanaaGreat
open Go.RowKit Go.Maps Go.WideMaps
set_option linter.unusedVariables false
def ftOf (ls : List FT) (k : Key) : Nat → Option AFate := fateOf (ls.map FT.abs) k
def yOf (ls : List FT) (k : Key) (s : Nat) : FT := (firstF ls k (s : Int)).getD FT.zero
theorem hits_y (ls : List FT) (k : Key) (s : Nat) : hits (ftOf ls k s) = decide ((yOf ls k s).kind = 1 ∨ (yOf ls k s).kind = 2) := by
  unfold ftOf yOf
  rw [firstF_abs]
  cases firstF ls k (s : Int) with
  | none => rfl
  | some x => rfl
def endOf (F : AF) (s : Nat) : Nat := min (64 * s + 64) F.seen.length
def lenNot (F : AF) (ft : Nat → Option AFate) (left : Lit → Bool) : Nat :=
  (List.range F.nsec).foldl (fun m s => if F.dirty s && hits (ft s) && !left (.int .i64 (s : Int)) then max m (endOf F s) else m) F.safe.length
section
variable {F : AF} {ft : Nat → Option AFate} {left : Lit → Bool}
theorem lenNot_le {M : Nat} (h0 : F.safe.length ≤ M) (h : ∀ s, s < F.nsec → F.dirty s = true → hits (ft s) = true → left (.int .i64 (s : Int)) = false → endOf F s ≤ M) : lenNot F ft left ≤ M := by
  unfold lenNot
  refine foldl_max_le (fun s => F.dirty s && hits (ft s) && !left (.int .i64 (s : Int))) (endOf F) M _ _ h0 (fun s hs hp => ?_)
  simp only [Bool.and_eq_true, Bool.not_eq_true'] at hp
  exact h s (List.mem_range.1 hs) hp.1.1 hp.1.2 hp.2
theorem lenNot_ge : F.safe.length ≤ lenNot F ft left := foldl_max_ge (fun s => F.dirty s && hits (ft s) && !left (.int .i64 (s : Int))) (endOf F) _ _
theorem lenNot_mem {s : Nat} (hs : s < F.nsec) (hd : F.dirty s = true) (hh : hits (ft s) = true) (hl : left (.int .i64 (s : Int)) = false) : endOf F s ≤ lenNot F ft left :=
  foldl_max_mem (fun s => F.dirty s && hits (ft s) && !left (.int .i64 (s : Int))) (endOf F) _ _ s (List.mem_range.2 hs) (by simp [hd, hh, hl])
theorem lenNot_seen (h : F.Ok) : lenNot F ft left ≤ F.seen.length := lenNot_le h.le (fun s _ _ _ _ => Nat.min_le_right _ _)
theorem lenNot_start (h : F.Ok) : lenNot F ft (Maps.has (dirtyD F)) = F.safe.length := by
  refine Nat.le_antisymm (lenNot_le (Nat.le_refl _) (fun s _ hd _ hl => ?_)) lenNot_ge
  rw [dirty_has h, decide_eq_true (by omega), Int.toNat_natCast, hd] at hl
  cases hl
theorem lenNot_end (hl : ∀ kl, left kl = false) : lenNot F ft left = F.len ft := by
  refine Nat.le_antisymm (lenNot_le (AF.len_ge F ft) (fun s hs hd hh _ => ?_)) ?_
  · unfold AF.len
    exact foldl_max_mem (fun s => F.dirty s && hits (ft s)) (endOf F) _ _ s (List.mem_range.2 hs) (by simp [hd, hh])
  · unfold AF.len
    refine foldl_max_le (fun s => F.dirty s && hits (ft s)) (endOf F) _ _ _ lenNot_ge (fun s hs hp => ?_)
    simp only [Bool.and_eq_true] at hp
    exact lenNot_mem (List.mem_range.1 hs) hp.1 hp.2 (hl _)
theorem struck_left (s t : Nat) : (left (.int .i64 (t : Int)) && !(Lit.int .i64 (t : Int)).sameKey (.int .i64 (s : Int))) = false ↔ t = s ∨ left (.int .i64 (t : Int)) = false := by
  by_cases e : t = s
  · subst e; simp [Lit.sameKey]
  · have : (Lit.int .i64 (t : Int)).sameKey (.int .i64 (s : Int)) = false := by simp [Lit.sameKey]; omega
    rw [this]; simp [e]
theorem lenNot_hit (h : F.Ok) {s : Nat} (hd : F.dirty s = true) (hh : hits (ft s) = true) : lenNot F ft (fun z => left z && !z.sameKey (.int .i64 (s : Int))) = max (lenNot F ft left) (endOf F s) := by
  refine Nat.le_antisymm (lenNot_le ?_ (fun t ht hdt hht hl => ?_)) (Nat.max_le.2 ⟨lenNot_le lenNot_ge (fun t ht hdt hht hl => ?_), ?_⟩)
  · have := lenNot_ge (F := F) (ft := ft) (left := left); omega
  · rcases (struck_left s t).1 hl with rfl | hl
    · omega
    · have := lenNot_mem (ft := ft) ht hdt hht hl; omega
  · exact lenNot_mem ht hdt hht ((struck_left s t).2 (.inr hl))
  · exact lenNot_mem (AF.dirty_nsec h s hd) hd hh ((struck_left s s).2 (.inl rfl))
theorem lenNot_miss {s : Nat} (hh : hits (ft s) = false) : lenNot F ft (fun z => left z && !z.sameKey (.int .i64 (s : Int))) = lenNot F ft left := by
  refine Nat.le_antisymm (lenNot_le lenNot_ge (fun t ht hdt hht hl => ?_)) (lenNot_le lenNot_ge (fun t ht hdt hht hl => ?_))
  · rcases (struck_left s t).1 hl with rfl | hl
    · rw [hh] at hht; cases hht
    · exact lenNot_mem ht hdt hht hl
  · exact lenNot_mem ht hdt hht ((struck_left s t).2 (.inr hl))
end
theorem endOf_eq {F : AF} (h : F.Ok) {s : Nat} (hd : F.dirty s = true) : 64 * s + (sTo s F.seen.length - sFrom s F.seen.length) = endOf F s := by
  have h1 := h.dl s hd
  unfold endOf sTo sFrom
  omega
theorem field_kind (f b : ByteArray) (s k : Int) (w : World) : (Instr.field 140 (.agg #[.string f, .int .i64 s, .int .i64 k, .string b]) 2).run Tryz.prog w = .ok (.int .i64 k) w := by kernel_rfl
theorem Piece.shape {u : Value} {B : Option Nat} {o n : Nat} (h : Piece u B o n) : ∃ ad cp, u = .slice ad n cp := by
  obtain ⟨ad, cp, rfl, _⟩ := h
  exact ⟨ad, cp, rfl⟩
set_option maxRecDepth 5000 in
set_option maxHeartbeats 1000000 in
theorem lenB_any (w : World) (c : FC) (F : AF) (h : FileAt w c F) (mf nf : Nat) (D : DataW Unit) (ls : List FT) (k : Key) (ho : w.ownsMap Tryz.prog 3 fateElem mf nf D) (hm : FMap D ls k) :
    Calls Tryz.prog 82 #[.pointer (some ⟨c.g, 0, none⟩), .map (some mf)] w fun e w' => e = .returned (.int .i64 (F.len (ftOf ls k) : Int)) ∧ Below w.heap.size w w' := by
  have HH := hide h
  have HO := hide ho
  have HM := hide hm
  have c1 := h.c1
  have c2 := h.c2
  have hok := h.ok
  have hmo := hok.most
  obtain ⟨ad, cp, hv⟩ := h.seen.shape
  obtain ⟨ad1, cp1, hv1⟩ := h.safe.shape
  rw [hv1] at c1
  have HV := hide hv
  have hms := ho.lt
  clear h ho hm hv hv1
  go_enter Tryz.func82, Tryz.ntmps82
  go_wp2_with (first | (at_range; refine wpList_range_dirty _ rfl _ rfl F c.dm (by rfl) HH.out.dirty ?_; intro w4 hrg4 hb4 hlt4) | go_in)
  try go_frame
  clear c1 c2
  go_loopw [5] (fun v wr => ∃ left cnt, wr.ranges Tryz.prog 3 (unitElem (H := Unit)) c.dm w.heap.size 16384 (dirtyD F) left cnt ∧ v = .int .i64 (lenNot F (ftOf ls k) left : Int) ∧ Below w.heap.size w wr ∧ w.heap.size < wr.heap.size) (fun _ wr => wr.rangeLeft c.dm w.heap.size)
  case atStart => exact ⟨_, _, hrg4, by rw [lenNot_start hok], hb4, hlt4⟩
  case round =>
    clear hrg4 hb4 hlt4
    obtain ⟨left, cnt, hrg, rfl, hb, hlt⟩ := hrel
    have HR := hide hrg
    have HB := hide hb
    clear hrg hb
    have hln := lenNot_seen (ft := ftOf ls k) (left := left) hok
    go_wp2_with (first | (at_next; refine wpList_next_dirty _ rfl _ rfl F hok c.dm w.heap.size 16384 left cnt (by rfl) HR.out ?_ ?_) | go_in)
    · intro hl0
      have HE := hide (lenNot_end (F := F) (ft := ftOf ls k) hl0)
      clear hl0 hln
      go_wp2
      go_ret
      exact ⟨by rw [HE.out]; rfl, HB.out⟩
    · intro s w5 cnt5 hd hs hlk hrg5 hlt5 hg5 hen
      have hb5 := HB.out.grown hg5 (Nat.le_of_lt hlt) (fun j hj => by cases hj; exact Nat.le_refl _)
      have hsz5 := hg5.size
      have hf5 := HH.out.later hb5
      have ho5 := ownsMap_same HO.out (hb5.block mf hms)
      have hl5 := (look_fate ho5 HM.out (s : Int) (wf_nat s (by omega))).2
      obtain ⟨y, hy⟩ : ∃ y, yOf ls k s = y := ⟨_, rfl⟩
      have HHT : Hid (hits (ftOf ls k s) = decide (y.kind = 1 ∨ y.kind = 2)) := by show _ = _; rw [hits_y, hy]
      unfold yOf at hy
      rw [hy] at hl5
      simp only [FT.cs] at hl5
      have x0 := hf5.c0
      rw [HV.out] at x0
      obtain ⟨u, hp, hcall⟩ := sector_any w5 _ _ hf5.seen s hs (by omega)
      rw [HV.out] at hcall
      obtain ⟨au, cu, hu⟩ := hp.shape
      have HEO := hide (endOf_eq hok hd)
      obtain ⟨q, hq⟩ : ∃ q, sTo s F.seen.length - sFrom s F.seen.length = q := ⟨_, rfl⟩
      have hql : q ≤ F.seen.length := by rw [← hq]; have := sTo_le s F.seen.length; omega
      rw [hq] at hu HEO
      subst hu
      have hfk := field_kind y.file y.bytes y.sector y.kind w5
      have HR5 := hide hrg5
      have HL5 := hide hlt5
      have HB5 := hide hb5
      have HD := hide hd
      have hs64 : (s : Int) < 16384 := by omega
      have hq64 : (q : Int) ≤ 1048576 := by omega
      clear hrg5 hlt5 hb5 hf5 ho5 hp hd hq hlk hg5 hy
      by_cases h1 : y.kind = 1
      · have d1 : (y.kind == 1) = true := beq_iff_eq.2 h1
        have HMS : Hid (hits (ftOf ls k s) = true) := by show _ = _; rw [HHT.out]; exact decide_eq_true (by omega)
        have HNX := hide (lenNot_hit (left := left) hok HD.out HMS.out)
        obtain ⟨M, hM⟩ : ∃ M, lenNot F (ftOf ls k) left = M := ⟨_, rfl⟩
        obtain ⟨M2, hM2⟩ : ∃ M2, max M (endOf F s) = M2 := ⟨_, rfl⟩
        have HMX : Hid (max (M : Int) ((s : Int) * 64 + (q : Int)) = (M2 : Int)) := by show _ = _; have := HEO.out; omega
        rw [hM] at hln HNX ⊢
        rw [hM2] at HNX
        clear h1 hM hM2
        go_wp2_with fail
        refine (hcall _).mono ?_
        rintro e w6 ⟨rfl, rfl⟩
        go_wp2
        go_roundw
        case rel => exact ⟨_, cnt5, HR5.out, by rw [HNX.out]; exact congrArg _ HMX.out, HB5.out, by omega⟩
        case measure => rw [HR5.out.left_eq, HR.out.left_eq]; exact HL5.out
      · by_cases h2 : y.kind = 2
        · have d1 : (y.kind == 1) = false := beq_eq_false_iff_ne.2 h1
          have d2 : (y.kind == 2) = true := beq_iff_eq.2 h2
          have HMS : Hid (hits (ftOf ls k s) = true) := by show _ = _; rw [HHT.out]; exact decide_eq_true (by omega)
          have HNX := hide (lenNot_hit (left := left) hok HD.out HMS.out)
          obtain ⟨M, hM⟩ : ∃ M, lenNot F (ftOf ls k) left = M := ⟨_, rfl⟩
          obtain ⟨M2, hM2⟩ : ∃ M2, max M (endOf F s) = M2 := ⟨_, rfl⟩
          have HMX : Hid (max (M : Int) ((s : Int) * 64 + (q : Int)) = (M2 : Int)) := by show _ = _; have := HEO.out; omega
          rw [hM] at hln HNX ⊢
          rw [hM2] at HNX
          clear h1 h2 hM hM2
          go_wp2_with fail
          refine (hcall _).mono ?_
          rintro e w6 ⟨rfl, rfl⟩
          go_wp2
          go_roundw
          case rel => exact ⟨_, cnt5, HR5.out, by rw [HNX.out]; exact congrArg _ HMX.out, HB5.out, by omega⟩
          case measure => rw [HR5.out.left_eq, HR.out.left_eq]; exact HL5.out
        · have d1 : (y.kind == 1) = false := beq_eq_false_iff_ne.2 h1
          have d2 : (y.kind == 2) = false := beq_eq_false_iff_ne.2 h2
          have HMS : Hid (hits (ftOf ls k s) = false) := by show _ = _; rw [HHT.out]; exact decide_eq_false (by omega)
          clear h1 h2
          go_wp2
          go_roundw
          case rel => exact ⟨_, cnt5, HR5.out, by rw [lenNot_miss HMS.out], HB5.out, by omega⟩
          case measure => rw [HR5.out.left_eq, HR.out.left_eq]; exact HL5.out
end Go.Proofs.YtlkimfmilccanaaGreat
