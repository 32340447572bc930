/-
  reads: a step on a reader of the program's and on one of the document's.
-/
import Derived.Test.YtmcnempkddahcaaRefR2
import Derived.Test.YtmcnempkddahcaaNothing
import Derived.Test.YtmcnempkddahcaaFour
import Derived.Deep.DrawnRows
namespace Go.Proofs.Ytmcnempkddahcaa
open Go.RowKit
set_option linter.unusedVariables false
structure Mq (p q : Nat) (w w' : World) : Prop where
  os : w'.os = w.os
  tape : w'.tape = w.tape
  output : w'.output = w.output
  size : w.heap.size ≤ w'.heap.size
  block : ∀ k, k < w.heap.size → k ≠ p → k ≠ q → w'.heap[k]? = w.heap[k]?
theorem Mq.ofP {p q : Nat} {w w' : World} (h : Mr p w w') : Mq p q w w' := ⟨Mw.os h, Mw.tape h, Mw.output h, Mr.size h, fun k hk hp _ => Mr.block h k hk hp⟩
theorem Mq.ofQ {p q : Nat} {w w' : World} (h : Mr q w w') : Mq p q w w' := ⟨Mw.os h, Mw.tape h, Mw.output h, Mr.size h, fun k hk _ hq => Mr.block h k hk hq⟩
theorem Mq.trans {p q : Nat} {w w1 w2 : World} (h : Mq p q w w1) (k : Mq p q w1 w2) : Mq p q w w2 := ⟨k.os.trans h.os, k.tape.trans h.tape, k.output.trans h.output, Nat.le_trans h.size k.size, fun i hi hp hq => (k.block i (Nat.lt_of_lt_of_le hi h.size) hp hq).trans (h.block i hi hp hq)⟩
theorem Mq.refl (p q : Nat) (w : World) : Mq p q w w := ⟨rfl, rfl, rfl, Nat.le_refl _, fun _ _ _ _ => rfl⟩
theorem Mq.of {p q : Nat} {w w' : World} (h : Below w.heap.size w w') : Mq p q w w' := ⟨h.os, h.tape, h.output, h.size, fun k hk _ _ => h.block k hk⟩
def rdS (K N : Int) (st : RS) : RS :=
  if K = 0 then takeS 1 st else if K = 1 then takeS 2 st else if K = 2 then takeS 4 st else if K = 3 then takeS 8 st else if K = 4 then takeS 8 st else if K = 5 then takeS 32 st else if K = 6 then textS N st else if K = 7 then rawS N st else st
theorem rdS_size (K N : Int) (st : RS) : (rdS K N st).1.size ≤ st.1.size := by
  have hraw : (rawS N st).1.size ≤ st.1.size := by
    unfold rawS
    refine Nat.le_trans (takeS_size _ _) ?_
    unfold rawMid
    split
    · exact stopS_size _ _
    · exact Nat.le_refl _
  have htext : (textS N st).1.size ≤ st.1.size := Nat.le_trans (takeS_size _ _) (textMid_size _ _)
  unfold rdS
  (repeat' split) <;> first | exact takeS_size _ _ | exact htext | exact hraw | exact Nat.le_refl _
theorem ocells {w : World} {g : Nat} {O : OL} (h : Has w g 69 (ov O) 40) : w.cell? ⟨g, 38, none⟩ = some (.int .i64 O.K) ∧ w.cell? ⟨g, 39, none⟩ = some (.int .i64 O.N) := ⟨h.cell 38 (by omega), h.cell 39 (by omega)⟩
attribute [local go_sem ↓] Go.wp_at_zero Go.wp_at_succ

set_option maxRecDepth 5000 in
set_option maxHeartbeats 4000000 in
theorem reads_0 (O : OL) (hk : O.K = 0) (p q : Nat) (hpq : p ≠ q) (st : RS) (w : World) (hC : CR w p st) (hR : RR w q st) (hz : st.1.size ≤ 281474976710656) :
    Calls Try.prog 40 #[.pointer (some ⟨p, 0, none⟩), .pointer (some ⟨q, 0, none⟩), .agg (tabv (ov O) 40)] w fun e w' => e = .returned (.bool true) ∧ CR w' p (rdS O.K O.N st) ∧ RR w' q (rdS O.K O.N st) ∧ Mq p q w w' := by
  have g0 := Has.new w 69 (ov O) 40 _ rfl
  have gb := (Below.refl w.heap.size w).alloc (Nat.le_refl _) (.cells (tabv (ov O) 40) 69)
  have HG := hide gb
  have HH := hide g0
  have hC1 := hC.below gb
  have hR1 := hR.below gb
  have hpl := hC.lt
  have hql := hR.lt
  have HM1 : Hid (Mq p q w (w.alloc (.cells (tabv (ov O) 40) 69))) := Mq.of gb
  have HZ := hide hz
  have c38 := (ocells g0).1
  have e : rdS O.K O.N st = takeS 1 st := by unfold rdS; rw [hk]; rw [if_pos rfl]
  rw [e]
  rw [hk] at c38
  clear e
  have hgs : w.heap.size < (w.alloc (.cells (tabv (ov O) 40) 69)).heap.size := by simp
  clear g0 gb hC hR hz
  generalize hW : w.alloc (.cells (tabv (ov O) 40) 69) = w1 at hC1 hR1 HM1 HG HH c38 hgs
  obtain ⟨g, hgg⟩ : ∃ g, w.heap.size = g := ⟨_, rfl⟩
  rw [hgg] at HH c38 hgs hpl hql
  go_enter Try.func40, Try.ntmps40
  go_wp2_with fail
  refine (rU8 p st _ hC1).mono ?_
  rintro e w2 ⟨rfl, h2, hM2⟩
  have hR2 := hR1.same (hM2.block q hR1.lt (fun e => hpq e.symm))
  go_wp2_with fail
  refine (xU8 q st _ hR2).mono ?_
  rintro e w3 ⟨rfl, h3, hM3⟩
  go_wp2
  go_ret
  exact ⟨rfl, h2.same (hM3.block p h2.lt hpq), h3, (HM1.out.trans (Mq.ofP hM2)).trans (Mq.ofQ hM3)⟩
set_option maxRecDepth 5000 in
set_option maxHeartbeats 4000000 in
theorem reads_1 (O : OL) (hk : O.K = 1) (p q : Nat) (hpq : p ≠ q) (st : RS) (w : World) (hC : CR w p st) (hR : RR w q st) (hz : st.1.size ≤ 281474976710656) :
    Calls Try.prog 40 #[.pointer (some ⟨p, 0, none⟩), .pointer (some ⟨q, 0, none⟩), .agg (tabv (ov O) 40)] w fun e w' => e = .returned (.bool true) ∧ CR w' p (rdS O.K O.N st) ∧ RR w' q (rdS O.K O.N st) ∧ Mq p q w w' := by
  have g0 := Has.new w 69 (ov O) 40 _ rfl
  have gb := (Below.refl w.heap.size w).alloc (Nat.le_refl _) (.cells (tabv (ov O) 40) 69)
  have HG := hide gb
  have HH := hide g0
  have hC1 := hC.below gb
  have hR1 := hR.below gb
  have hpl := hC.lt
  have hql := hR.lt
  have HM1 : Hid (Mq p q w (w.alloc (.cells (tabv (ov O) 40) 69))) := Mq.of gb
  have HZ := hide hz
  have c38 := (ocells g0).1
  have e : rdS O.K O.N st = takeS 2 st := by unfold rdS; rw [hk]; rw [if_neg (by decide), if_pos rfl]
  rw [e]
  rw [hk] at c38
  clear e
  have hgs : w.heap.size < (w.alloc (.cells (tabv (ov O) 40) 69)).heap.size := by simp
  clear g0 gb hC hR hz
  generalize hW : w.alloc (.cells (tabv (ov O) 40) 69) = w1 at hC1 hR1 HM1 HG HH c38 hgs
  obtain ⟨g, hgg⟩ : ∃ g, w.heap.size = g := ⟨_, rfl⟩
  rw [hgg] at HH c38 hgs hpl hql
  go_enter Try.func40, Try.ntmps40
  go_wp2_with fail
  refine (rU16 p st _ hC1).mono ?_
  rintro e w2 ⟨rfl, h2, hM2⟩
  have hR2 := hR1.same (hM2.block q hR1.lt (fun e => hpq e.symm))
  go_wp2_with fail
  refine (xU16 q st _ hR2).mono ?_
  rintro e w3 ⟨rfl, h3, hM3⟩
  go_wp2
  go_ret
  exact ⟨rfl, h2.same (hM3.block p h2.lt hpq), h3, (HM1.out.trans (Mq.ofP hM2)).trans (Mq.ofQ hM3)⟩
set_option maxRecDepth 5000 in
set_option maxHeartbeats 4000000 in
theorem reads_2 (O : OL) (hk : O.K = 2) (p q : Nat) (hpq : p ≠ q) (st : RS) (w : World) (hC : CR w p st) (hR : RR w q st) (hz : st.1.size ≤ 281474976710656) :
    Calls Try.prog 40 #[.pointer (some ⟨p, 0, none⟩), .pointer (some ⟨q, 0, none⟩), .agg (tabv (ov O) 40)] w fun e w' => e = .returned (.bool true) ∧ CR w' p (rdS O.K O.N st) ∧ RR w' q (rdS O.K O.N st) ∧ Mq p q w w' := by
  have g0 := Has.new w 69 (ov O) 40 _ rfl
  have gb := (Below.refl w.heap.size w).alloc (Nat.le_refl _) (.cells (tabv (ov O) 40) 69)
  have HG := hide gb
  have HH := hide g0
  have hC1 := hC.below gb
  have hR1 := hR.below gb
  have hpl := hC.lt
  have hql := hR.lt
  have HM1 : Hid (Mq p q w (w.alloc (.cells (tabv (ov O) 40) 69))) := Mq.of gb
  have HZ := hide hz
  have c38 := (ocells g0).1
  have e : rdS O.K O.N st = takeS 4 st := by unfold rdS; rw [hk]; rw [if_neg (by decide), if_neg (by decide), if_pos rfl]
  rw [e]
  rw [hk] at c38
  clear e
  have hgs : w.heap.size < (w.alloc (.cells (tabv (ov O) 40) 69)).heap.size := by simp
  clear g0 gb hC hR hz
  generalize hW : w.alloc (.cells (tabv (ov O) 40) 69) = w1 at hC1 hR1 HM1 HG HH c38 hgs
  obtain ⟨g, hgg⟩ : ∃ g, w.heap.size = g := ⟨_, rfl⟩
  rw [hgg] at HH c38 hgs hpl hql
  go_enter Try.func40, Try.ntmps40
  go_wp2_with fail
  refine (rU32 p st _ hC1).mono ?_
  rintro e w2 ⟨rfl, h2, hM2⟩
  have hR2 := hR1.same (hM2.block q hR1.lt (fun e => hpq e.symm))
  go_wp2_with fail
  refine (xU32 q st _ hR2).mono ?_
  rintro e w3 ⟨rfl, h3, hM3⟩
  go_wp2
  go_ret
  exact ⟨rfl, h2.same (hM3.block p h2.lt hpq), h3, (HM1.out.trans (Mq.ofP hM2)).trans (Mq.ofQ hM3)⟩
set_option maxRecDepth 5000 in
set_option maxHeartbeats 4000000 in
theorem reads_3 (O : OL) (hk : O.K = 3) (p q : Nat) (hpq : p ≠ q) (st : RS) (w : World) (hC : CR w p st) (hR : RR w q st) (hz : st.1.size ≤ 281474976710656) :
    Calls Try.prog 40 #[.pointer (some ⟨p, 0, none⟩), .pointer (some ⟨q, 0, none⟩), .agg (tabv (ov O) 40)] w fun e w' => e = .returned (.bool true) ∧ CR w' p (rdS O.K O.N st) ∧ RR w' q (rdS O.K O.N st) ∧ Mq p q w w' := by
  have g0 := Has.new w 69 (ov O) 40 _ rfl
  have gb := (Below.refl w.heap.size w).alloc (Nat.le_refl _) (.cells (tabv (ov O) 40) 69)
  have HG := hide gb
  have HH := hide g0
  have hC1 := hC.below gb
  have hR1 := hR.below gb
  have hpl := hC.lt
  have hql := hR.lt
  have HM1 : Hid (Mq p q w (w.alloc (.cells (tabv (ov O) 40) 69))) := Mq.of gb
  have HZ := hide hz
  have c38 := (ocells g0).1
  have e : rdS O.K O.N st = takeS 8 st := by unfold rdS; rw [hk]; rw [if_neg (by decide), if_neg (by decide), if_neg (by decide), if_pos rfl]
  rw [e]
  rw [hk] at c38
  clear e
  have hgs : w.heap.size < (w.alloc (.cells (tabv (ov O) 40) 69)).heap.size := by simp
  clear g0 gb hC hR hz
  generalize hW : w.alloc (.cells (tabv (ov O) 40) 69) = w1 at hC1 hR1 HM1 HG HH c38 hgs
  obtain ⟨g, hgg⟩ : ∃ g, w.heap.size = g := ⟨_, rfl⟩
  rw [hgg] at HH c38 hgs hpl hql
  go_enter Try.func40, Try.ntmps40
  go_wp2_with fail
  refine (rU64 p st _ hC1).mono ?_
  rintro e w2 ⟨rfl, h2, hM2⟩
  have hR2 := hR1.same (hM2.block q hR1.lt (fun e => hpq e.symm))
  go_wp2_with fail
  refine (xU64 q st _ hR2).mono ?_
  rintro e w3 ⟨rfl, h3, hM3⟩
  go_wp2
  go_ret
  exact ⟨rfl, h2.same (hM3.block p h2.lt hpq), h3, (HM1.out.trans (Mq.ofP hM2)).trans (Mq.ofQ hM3)⟩
set_option maxRecDepth 5000 in
set_option maxHeartbeats 4000000 in
theorem reads_4 (O : OL) (hk : O.K = 4) (p q : Nat) (hpq : p ≠ q) (st : RS) (w : World) (hC : CR w p st) (hR : RR w q st) (hz : st.1.size ≤ 281474976710656) :
    Calls Try.prog 40 #[.pointer (some ⟨p, 0, none⟩), .pointer (some ⟨q, 0, none⟩), .agg (tabv (ov O) 40)] w fun e w' => e = .returned (.bool true) ∧ CR w' p (rdS O.K O.N st) ∧ RR w' q (rdS O.K O.N st) ∧ Mq p q w w' := by
  have g0 := Has.new w 69 (ov O) 40 _ rfl
  have gb := (Below.refl w.heap.size w).alloc (Nat.le_refl _) (.cells (tabv (ov O) 40) 69)
  have HG := hide gb
  have HH := hide g0
  have hC1 := hC.below gb
  have hR1 := hR.below gb
  have hpl := hC.lt
  have hql := hR.lt
  have HM1 : Hid (Mq p q w (w.alloc (.cells (tabv (ov O) 40) 69))) := Mq.of gb
  have HZ := hide hz
  have c38 := (ocells g0).1
  have e : rdS O.K O.N st = takeS 8 st := by unfold rdS; rw [hk]; rw [if_neg (by decide), if_neg (by decide), if_neg (by decide), if_neg (by decide), if_pos rfl]
  rw [e]
  rw [hk] at c38
  clear e
  have hgs : w.heap.size < (w.alloc (.cells (tabv (ov O) 40) 69)).heap.size := by simp
  clear g0 gb hC hR hz
  generalize hW : w.alloc (.cells (tabv (ov O) 40) 69) = w1 at hC1 hR1 HM1 HG HH c38 hgs
  obtain ⟨g, hgg⟩ : ∃ g, w.heap.size = g := ⟨_, rfl⟩
  rw [hgg] at HH c38 hgs hpl hql
  go_enter Try.func40, Try.ntmps40
  obtain ⟨z, hz⟩ : ∃ z, IntKind.i64.wrap (num 8 st : Int) = z := ⟨_, rfl⟩
  have HZZ := hide hz
  clear hz
  go_wp2_with fail
  refine (rI64 p st _ hC1 z HZZ.out).mono ?_
  rintro e w2 ⟨rfl, h2, hM2⟩
  have hR2 := hR1.same (hM2.block q hR1.lt (fun e => hpq e.symm))
  go_wp2_with fail
  refine (xI64 q st _ hR2 z HZZ.out).mono ?_
  rintro e w3 ⟨rfl, h3, hM3⟩
  go_wp2
  go_ret
  exact ⟨rfl, h2.same (hM3.block p h2.lt hpq), h3, (HM1.out.trans (Mq.ofP hM2)).trans (Mq.ofQ hM3)⟩
set_option maxRecDepth 5000 in
set_option maxHeartbeats 4000000 in
theorem reads_5 (O : OL) (hk : O.K = 5) (p q : Nat) (hpq : p ≠ q) (st : RS) (w : World) (hC : CR w p st) (hR : RR w q st) (hz : st.1.size ≤ 281474976710656) :
    Calls Try.prog 40 #[.pointer (some ⟨p, 0, none⟩), .pointer (some ⟨q, 0, none⟩), .agg (tabv (ov O) 40)] w fun e w' => e = .returned (.bool true) ∧ CR w' p (rdS O.K O.N st) ∧ RR w' q (rdS O.K O.N st) ∧ Mq p q w w' := by
  have g0 := Has.new w 69 (ov O) 40 _ rfl
  have gb := (Below.refl w.heap.size w).alloc (Nat.le_refl _) (.cells (tabv (ov O) 40) 69)
  have HG := hide gb
  have HH := hide g0
  have hC1 := hC.below gb
  have hR1 := hR.below gb
  have hpl := hC.lt
  have hql := hR.lt
  have HM1 : Hid (Mq p q w (w.alloc (.cells (tabv (ov O) 40) 69))) := Mq.of gb
  have HZ := hide hz
  have c38 := (ocells g0).1
  have e : rdS O.K O.N st = takeS 32 st := by unfold rdS; rw [hk]; rw [if_neg (by decide), if_neg (by decide), if_neg (by decide), if_neg (by decide), if_neg (by decide), if_pos rfl]
  rw [e]
  rw [hk] at c38
  clear e
  have hgs : w.heap.size < (w.alloc (.cells (tabv (ov O) 40) 69)).heap.size := by simp
  clear g0 gb hC hR hz
  generalize hW : w.alloc (.cells (tabv (ov O) 40) 69) = w1 at hC1 hR1 HM1 HG HH c38 hgs
  obtain ⟨g, hgg⟩ : ∃ g, w.heap.size = g := ⟨_, rfl⟩
  rw [hgg] at HH c38 hgs hpl hql
  go_enter Try.func40, Try.ntmps40
  go_wp2_with fail
  refine (rHash p st _ hC1).mono ?_
  rintro e w2 ⟨rfl, h2, hM2⟩
  have hR2 := hR1.same (hM2.block q hR1.lt (fun e => hpq e.symm))
  go_wp2_with fail
  refine (xHash q st _ hR2).mono ?_
  rintro e w3 ⟨rfl, h3, hM3⟩
  go_wp2_with (refine wpList_bin rfl _ _ _ rfl (hOf (takeA 32 st)) (hOf (takeA 32 st)) (by rfl) (by rfl) (fun _ _ => rfl) ?_)
  go_ret
  exact ⟨rfl, h2.same (hM3.block p h2.lt hpq), h3, (HM1.out.trans (Mq.ofP hM2)).trans (Mq.ofQ hM3)⟩
set_option maxRecDepth 5000 in
set_option maxHeartbeats 4000000 in
theorem reads_6 (O : OL) (hk : O.K = 6) (p q : Nat) (hpq : p ≠ q) (st : RS) (w : World) (hC : CR w p st) (hR : RR w q st) (hz : st.1.size ≤ 281474976710656) :
    Calls Try.prog 40 #[.pointer (some ⟨p, 0, none⟩), .pointer (some ⟨q, 0, none⟩), .agg (tabv (ov O) 40)] w fun e w' => e = .returned (.bool true) ∧ CR w' p (rdS O.K O.N st) ∧ RR w' q (rdS O.K O.N st) ∧ Mq p q w w' := by
  have g0 := Has.new w 69 (ov O) 40 _ rfl
  have gb := (Below.refl w.heap.size w).alloc (Nat.le_refl _) (.cells (tabv (ov O) 40) 69)
  have HG := hide gb
  have HH := hide g0
  have hC1 := hC.below gb
  have hR1 := hR.below gb
  have hpl := hC.lt
  have hql := hR.lt
  have HM1 : Hid (Mq p q w (w.alloc (.cells (tabv (ov O) 40) 69))) := Mq.of gb
  have HZ := hide hz
  have c38 := (ocells g0).1
  have e : rdS O.K O.N st = textS O.N st := by unfold rdS; rw [hk]; rw [if_neg (by decide), if_neg (by decide), if_neg (by decide), if_neg (by decide), if_neg (by decide), if_neg (by decide), if_pos rfl]
  rw [e]
  rw [hk] at c38
  clear e
  have hgs : w.heap.size < (w.alloc (.cells (tabv (ov O) 40) 69)).heap.size := by simp
  clear g0 gb hC hR hz
  generalize hW : w.alloc (.cells (tabv (ov O) 40) 69) = w1 at hC1 hR1 HM1 HG HH c38 hgs
  obtain ⟨g, hgg⟩ : ∃ g, w.heap.size = g := ⟨_, rfl⟩
  rw [hgg] at HH c38 hgs hpl hql
  go_enter Try.func40, Try.ntmps40
  go_wp2
  clear hgg
  clear hW
  obtain ⟨R, hRR⟩ : ∃ R, textA O.N st = R := ⟨_, rfl⟩
  have HRR := hide hRR
  clear hRR
  refine wp_region_noPanic ?_
  refine wp_region_held_drew (S := fun wx => Has wx g 69 (ov O) 40) (by kernel_rfl) HH.out (fun hHeld => ?_)
  refine takeH 0 (some 53) (.pointer (some ⟨p, 0, none⟩)) rfl rfl (by kernel_rfl) (by kernel_rfl) (by kernel_rfl) (fun _ _ _ h => h) (by rfl) (fun w hw => by first | rfl | (go_simp; done) | (go_simp; rfl)) hHeld ?_
  simp only [Act.put, List.setIfInBounds_toArray, List.set_cons_zero, List.set_cons_succ]
  refine takeH 1 (some 54) (.pointer (some ⟨g, 39, none⟩)) rfl rfl (by kernel_rfl) (by kernel_rfl) (by kernel_rfl) (fun _ _ _ h => h) (by rfl) (fun w hw => by first | rfl | (go_simp; done) | (go_simp; rfl)) hHeld ?_
  simp only [Act.put, List.setIfInBounds_toArray, List.set_cons_zero, List.set_cons_succ]
  refine takeH 2 (some 55) (.int .i64 O.N) rfl rfl (by kernel_rfl) (by kernel_rfl) (by kernel_rfl) (fun _ _ _ h => h) (by rfl) (fun w hw => by have hd := (ocells hw).2; first | (go_simp; done) | (go_simp; rfl)) hHeld ?_
  simp only [Act.put, List.setIfInBounds_toArray, List.set_cons_zero, List.set_cons_succ]
  refine takeH 4 (some 57) (.pointer (some ⟨q, 0, none⟩)) rfl rfl (by kernel_rfl) (by kernel_rfl) (by kernel_rfl) (fun _ _ _ h => h) (by rfl) (fun w hw => by first | rfl | (go_simp; done) | (go_simp; rfl)) hHeld ?_
  simp only [Act.put, List.setIfInBounds_toArray, List.set_cons_zero, List.set_cons_succ]
  refine takeH 5 (some 58) (.pointer (some ⟨g, 39, none⟩)) rfl rfl (by kernel_rfl) (by kernel_rfl) (by kernel_rfl) (fun _ _ _ h => h) (by rfl) (fun w hw => by first | rfl | (go_simp; done) | (go_simp; rfl)) hHeld ?_
  simp only [Act.put, List.setIfInBounds_toArray, List.set_cons_zero, List.set_cons_succ]
  refine takeH 6 (some 59) (.int .i64 O.N) rfl rfl (by kernel_rfl) (by kernel_rfl) (by kernel_rfl) (fun _ _ _ h => h) (by rfl) (fun w hw => by have hd := (ocells hw).2; first | (go_simp; done) | (go_simp; rfl)) hHeld ?_
  simp only [Act.put, List.setIfInBounds_toArray, List.set_cons_zero, List.set_cons_succ]
  refine wpAnyH_ready (rs := [3]) (by kernel_rfl) (by simp) (AllReadyH.cons rfl (fun K hK => ?_) AllReadyH.nil)
  rw [if_pos (by rfl)]
  go_simp
  refine (rText O.N p st w1.drew hC1 HZ.out).mono ?_
  rintro e w2 ⟨rfl, h2, hM2⟩
  rw [HRR.out]
  have hR2 := RR.same (w := w1.drew) hR1 (hM2.block q hR1.lt (fun e => hpq e.symm))
  have hgs2 : g < w2.heap.size := Nat.lt_of_lt_of_le hgs hM2.size
  try go_wp2_with fail
  refine hK.out _ _ (hHeld.same3 (hM2.block g hgs (by omega))) (fun hHeld => ?_)
  clear hK K
  refine wpAnyH_ready (rs := [7]) (by kernel_rfl) (by simp) (AllReadyH.cons rfl (fun K hK => ?_) AllReadyH.nil)
  rw [if_pos (by rfl)]
  go_simp
  refine (xText O.N q st w2 hR2 HZ.out).mono ?_
  rintro e w3 ⟨rfl, h3, hM3⟩
  rw [HRR.out]
  try go_wp2_with fail
  refine hK.out _ _ (hHeld.same3 (hM3.block g hgs2 (by omega))) (fun hHeld => ?_)
  clear hK K
  refine takeH 8 (some 61) (.bool true) rfl rfl (by kernel_rfl) (by kernel_rfl) (by kernel_rfl) (fun _ _ _ h => h) (by rfl) (fun w hw => by first | rfl | (go_simp; done) | (go_simp; rfl)) hHeld ?_
  simp only [Act.put, List.setIfInBounds_toArray, List.set_cons_zero, List.set_cons_succ]
  refine takeH 9 (some 6) (.bool true) rfl rfl (by kernel_rfl) (by kernel_rfl) (by kernel_rfl) (fun _ _ _ h => h) (by rfl) (fun w hw => by first | rfl | (go_simp; done) | (go_simp; rfl)) hHeld ?_
  simp only [Act.put, List.setIfInBounds_toArray, List.set_cons_zero, List.set_cons_succ]
  refine ⟨by kernel_rfl, ?_⟩
  refine NoPanic.normal ?_
  go_wp2
  go_ret
  exact ⟨rfl, h2.same (hM3.block p h2.lt hpq), h3, ((HM1.out.trans (Mq.of (Below.refl w1.heap.size w1).drew)).trans (Mq.ofP hM2)).trans (Mq.ofQ hM3)⟩
set_option maxRecDepth 5000 in
set_option maxHeartbeats 4000000 in
theorem reads_7 (O : OL) (hk : O.K = 7) (p q : Nat) (hpq : p ≠ q) (st : RS) (w : World) (hC : CR w p st) (hR : RR w q st) (hz : st.1.size ≤ 281474976710656) :
    Calls Try.prog 40 #[.pointer (some ⟨p, 0, none⟩), .pointer (some ⟨q, 0, none⟩), .agg (tabv (ov O) 40)] w fun e w' => e = .returned (.bool true) ∧ CR w' p (rdS O.K O.N st) ∧ RR w' q (rdS O.K O.N st) ∧ Mq p q w w' := by
  have g0 := Has.new w 69 (ov O) 40 _ rfl
  have gb := (Below.refl w.heap.size w).alloc (Nat.le_refl _) (.cells (tabv (ov O) 40) 69)
  have HG := hide gb
  have HH := hide g0
  have hC1 := hC.below gb
  have hR1 := hR.below gb
  have hpl := hC.lt
  have hql := hR.lt
  have HM1 : Hid (Mq p q w (w.alloc (.cells (tabv (ov O) 40) 69))) := Mq.of gb
  have HZ := hide hz
  have c38 := (ocells g0).1
  have e : rdS O.K O.N st = rawS O.N st := by unfold rdS; rw [hk]; rw [if_neg (by decide), if_neg (by decide), if_neg (by decide), if_neg (by decide), if_neg (by decide), if_neg (by decide), if_neg (by decide), if_pos rfl]
  rw [e]
  rw [hk] at c38
  clear e
  have hgs : w.heap.size < (w.alloc (.cells (tabv (ov O) 40) 69)).heap.size := by simp
  clear g0 gb hC hR hz
  generalize hW : w.alloc (.cells (tabv (ov O) 40) 69) = w1 at hC1 hR1 HM1 HG HH c38 hgs
  obtain ⟨g, hgg⟩ : ∃ g, w.heap.size = g := ⟨_, rfl⟩
  rw [hgg] at HH c38 hgs hpl hql
  go_enter Try.func40, Try.ntmps40
  go_wp2
  clear hgg
  clear hW
  obtain ⟨R, hRR⟩ : ∃ R, rawA O.N st = R := ⟨_, rfl⟩
  have HRR := hide hRR
  clear hRR
  refine wp_region_noPanic ?_
  refine wp_region_held_drew (S := fun wx => Has wx g 69 (ov O) 40) (by kernel_rfl) HH.out (fun hHeld => ?_)
  refine takeH 0 (some 64) (.pointer (some ⟨p, 0, none⟩)) rfl rfl (by kernel_rfl) (by kernel_rfl) (by kernel_rfl) (fun _ _ _ h => h) (by rfl) (fun w hw => by first | rfl | (go_simp; done) | (go_simp; rfl)) hHeld ?_
  simp only [Act.put, List.setIfInBounds_toArray, List.set_cons_zero, List.set_cons_succ]
  refine takeH 1 (some 65) (.pointer (some ⟨g, 39, none⟩)) rfl rfl (by kernel_rfl) (by kernel_rfl) (by kernel_rfl) (fun _ _ _ h => h) (by rfl) (fun w hw => by first | rfl | (go_simp; done) | (go_simp; rfl)) hHeld ?_
  simp only [Act.put, List.setIfInBounds_toArray, List.set_cons_zero, List.set_cons_succ]
  refine takeH 2 (some 66) (.int .i64 O.N) rfl rfl (by kernel_rfl) (by kernel_rfl) (by kernel_rfl) (fun _ _ _ h => h) (by rfl) (fun w hw => by have hd := (ocells hw).2; first | (go_simp; done) | (go_simp; rfl)) hHeld ?_
  simp only [Act.put, List.setIfInBounds_toArray, List.set_cons_zero, List.set_cons_succ]
  refine takeH 4 (some 68) (.pointer (some ⟨q, 0, none⟩)) rfl rfl (by kernel_rfl) (by kernel_rfl) (by kernel_rfl) (fun _ _ _ h => h) (by rfl) (fun w hw => by first | rfl | (go_simp; done) | (go_simp; rfl)) hHeld ?_
  simp only [Act.put, List.setIfInBounds_toArray, List.set_cons_zero, List.set_cons_succ]
  refine takeH 5 (some 69) (.pointer (some ⟨g, 39, none⟩)) rfl rfl (by kernel_rfl) (by kernel_rfl) (by kernel_rfl) (fun _ _ _ h => h) (by rfl) (fun w hw => by first | rfl | (go_simp; done) | (go_simp; rfl)) hHeld ?_
  simp only [Act.put, List.setIfInBounds_toArray, List.set_cons_zero, List.set_cons_succ]
  refine takeH 6 (some 70) (.int .i64 O.N) rfl rfl (by kernel_rfl) (by kernel_rfl) (by kernel_rfl) (fun _ _ _ h => h) (by rfl) (fun w hw => by have hd := (ocells hw).2; first | (go_simp; done) | (go_simp; rfl)) hHeld ?_
  simp only [Act.put, List.setIfInBounds_toArray, List.set_cons_zero, List.set_cons_succ]
  refine wpAnyH_ready (rs := [3]) (by kernel_rfl) (by simp) (AllReadyH.cons rfl (fun K hK => ?_) AllReadyH.nil)
  rw [if_pos (by rfl)]
  go_simp
  refine (rRaw O.N p st w1.drew hC1 HZ.out).mono ?_
  rintro e w2 ⟨rfl, h2, hM2⟩
  rw [HRR.out]
  have hR2 := RR.same (w := w1.drew) hR1 (hM2.block q hR1.lt (fun e => hpq e.symm))
  have hgs2 : g < w2.heap.size := Nat.lt_of_lt_of_le hgs hM2.size
  try go_wp2_with fail
  refine hK.out _ _ (hHeld.same3 (hM2.block g hgs (by omega))) (fun hHeld => ?_)
  clear hK K
  refine wpAnyH_ready (rs := [7]) (by kernel_rfl) (by simp) (AllReadyH.cons rfl (fun K hK => ?_) AllReadyH.nil)
  rw [if_pos (by rfl)]
  go_simp
  refine (xRaw O.N q st w2 hR2).mono ?_
  rintro e w3 ⟨rfl, h3, hM3⟩
  rw [HRR.out]
  try go_wp2_with fail
  refine hK.out _ _ (hHeld.same3 (hM3.block g hgs2 (by omega))) (fun hHeld => ?_)
  clear hK K
  refine takeH 8 (some 72) (.bool true) rfl rfl (by kernel_rfl) (by kernel_rfl) (by kernel_rfl) (fun _ _ _ h => h) (by rfl) (fun w hw => by first | rfl | (go_simp; done) | (go_simp; rfl)) hHeld ?_
  simp only [Act.put, List.setIfInBounds_toArray, List.set_cons_zero, List.set_cons_succ]
  refine takeH 9 (some 6) (.bool true) rfl rfl (by kernel_rfl) (by kernel_rfl) (by kernel_rfl) (fun _ _ _ h => h) (by rfl) (fun w hw => by first | rfl | (go_simp; done) | (go_simp; rfl)) hHeld ?_
  simp only [Act.put, List.setIfInBounds_toArray, List.set_cons_zero, List.set_cons_succ]
  refine ⟨by kernel_rfl, ?_⟩
  refine NoPanic.normal ?_
  go_wp2
  go_ret
  exact ⟨rfl, h2.same (hM3.block p h2.lt hpq), h3, ((HM1.out.trans (Mq.of (Below.refl w1.heap.size w1).drew)).trans (Mq.ofP hM2)).trans (Mq.ofQ hM3)⟩
set_option maxRecDepth 5000 in
set_option maxHeartbeats 4000000 in
theorem reads_8 (O : OL) (hk : O.K = 8) (p q : Nat) (hpq : p ≠ q) (st : RS) (w : World) (hC : CR w p st) (hR : RR w q st) (hz : st.1.size ≤ 281474976710656) :
    Calls Try.prog 40 #[.pointer (some ⟨p, 0, none⟩), .pointer (some ⟨q, 0, none⟩), .agg (tabv (ov O) 40)] w fun e w' => e = .returned (.bool true) ∧ CR w' p (rdS O.K O.N st) ∧ RR w' q (rdS O.K O.N st) ∧ Mq p q w w' := by
  have g0 := Has.new w 69 (ov O) 40 _ rfl
  have gb := (Below.refl w.heap.size w).alloc (Nat.le_refl _) (.cells (tabv (ov O) 40) 69)
  have HG := hide gb
  have HH := hide g0
  have hC1 := hC.below gb
  have hR1 := hR.below gb
  have hpl := hC.lt
  have hql := hR.lt
  have HM1 : Hid (Mq p q w (w.alloc (.cells (tabv (ov O) 40) 69))) := Mq.of gb
  have HZ := hide hz
  have c38 := (ocells g0).1
  have e : rdS O.K O.N st = st := by unfold rdS; rw [hk]; rw [if_neg (by decide), if_neg (by decide), if_neg (by decide), if_neg (by decide), if_neg (by decide), if_neg (by decide), if_neg (by decide), if_neg (by decide)]
  rw [e]
  rw [hk] at c38
  clear e
  have hgs : w.heap.size < (w.alloc (.cells (tabv (ov O) 40) 69)).heap.size := by simp
  clear g0 gb hC hR hz
  generalize hW : w.alloc (.cells (tabv (ov O) 40) 69) = w1 at hC1 hR1 HM1 HG HH c38 hgs
  obtain ⟨g, hgg⟩ : ∃ g, w.heap.size = g := ⟨_, rfl⟩
  rw [hgg] at HH c38 hgs hpl hql
  go_enter Try.func40, Try.ntmps40
  go_wp2_with fail
  refine (rErr p st _ hC1).mono ?_
  rintro e w2 ⟨rfl, rfl⟩
  go_wp2_with fail
  refine (xErr q st _ hR1).mono ?_
  rintro e w3 ⟨rfl, rfl⟩
  go_wp2
  go_ret
  exact ⟨rfl, hC1, hR1, HM1.out⟩
set_option maxRecDepth 5000 in
set_option maxHeartbeats 4000000 in
theorem reads_9 (O : OL) (hk : O.K = 9) (p q : Nat) (hpq : p ≠ q) (st : RS) (w : World) (hC : CR w p st) (hR : RR w q st) (hz : st.1.size ≤ 281474976710656) :
    Calls Try.prog 40 #[.pointer (some ⟨p, 0, none⟩), .pointer (some ⟨q, 0, none⟩), .agg (tabv (ov O) 40)] w fun e w' => e = .returned (.bool true) ∧ CR w' p (rdS O.K O.N st) ∧ RR w' q (rdS O.K O.N st) ∧ Mq p q w w' := by
  have g0 := Has.new w 69 (ov O) 40 _ rfl
  have gb := (Below.refl w.heap.size w).alloc (Nat.le_refl _) (.cells (tabv (ov O) 40) 69)
  have HG := hide gb
  have HH := hide g0
  have hC1 := hC.below gb
  have hR1 := hR.below gb
  have hpl := hC.lt
  have hql := hR.lt
  have HM1 : Hid (Mq p q w (w.alloc (.cells (tabv (ov O) 40) 69))) := Mq.of gb
  have HZ := hide hz
  have c38 := (ocells g0).1
  have e : rdS O.K O.N st = st := by unfold rdS; rw [hk]; rw [if_neg (by decide), if_neg (by decide), if_neg (by decide), if_neg (by decide), if_neg (by decide), if_neg (by decide), if_neg (by decide), if_neg (by decide)]
  rw [e]
  rw [hk] at c38
  clear e
  have hgs : w.heap.size < (w.alloc (.cells (tabv (ov O) 40) 69)).heap.size := by simp
  clear g0 gb hC hR hz
  generalize hW : w.alloc (.cells (tabv (ov O) 40) 69) = w1 at hC1 hR1 HM1 HG HH c38 hgs
  obtain ⟨g, hgg⟩ : ∃ g, w.heap.size = g := ⟨_, rfl⟩
  rw [hgg] at HH c38 hgs hpl hql
  go_enter Try.func40, Try.ntmps40
  go_wp2_with fail
  refine (rRest p st _ hC1 HZ.out).mono ?_
  rintro e w2 ⟨rfl, hb2⟩
  go_wp2_with fail
  refine (xRest q st _ (hR1.below hb2)).mono ?_
  rintro e w3 ⟨rfl, rfl⟩
  go_wp2
  go_ret
  exact ⟨rfl, hC1.below hb2, hR1.below hb2, HM1.out.trans (Mq.of hb2)⟩
set_option maxRecDepth 5000 in
set_option maxHeartbeats 4000000 in
theorem reads_10 (O : OL) (hk : O.K = 10) (p q : Nat) (hpq : p ≠ q) (st : RS) (w : World) (hC : CR w p st) (hR : RR w q st) (hz : st.1.size ≤ 281474976710656) :
    Calls Try.prog 40 #[.pointer (some ⟨p, 0, none⟩), .pointer (some ⟨q, 0, none⟩), .agg (tabv (ov O) 40)] w fun e w' => e = .returned (.bool true) ∧ CR w' p (rdS O.K O.N st) ∧ RR w' q (rdS O.K O.N st) ∧ Mq p q w w' := by
  have g0 := Has.new w 69 (ov O) 40 _ rfl
  have gb := (Below.refl w.heap.size w).alloc (Nat.le_refl _) (.cells (tabv (ov O) 40) 69)
  have HG := hide gb
  have HH := hide g0
  have hC1 := hC.below gb
  have hR1 := hR.below gb
  have hpl := hC.lt
  have hql := hR.lt
  have HM1 : Hid (Mq p q w (w.alloc (.cells (tabv (ov O) 40) 69))) := Mq.of gb
  have HZ := hide hz
  have c38 := (ocells g0).1
  have e : rdS O.K O.N st = st := by unfold rdS; rw [hk]; rw [if_neg (by decide), if_neg (by decide), if_neg (by decide), if_neg (by decide), if_neg (by decide), if_neg (by decide), if_neg (by decide), if_neg (by decide)]
  rw [e]
  rw [hk] at c38
  clear e
  have hgs : w.heap.size < (w.alloc (.cells (tabv (ov O) 40) 69)).heap.size := by simp
  clear g0 gb hC hR hz
  generalize hW : w.alloc (.cells (tabv (ov O) 40) 69) = w1 at hC1 hR1 HM1 HG HH c38 hgs
  obtain ⟨g, hgg⟩ : ∃ g, w.heap.size = g := ⟨_, rfl⟩
  rw [hgg] at HH c38 hgs hpl hql
  go_enter Try.func40, Try.ntmps40
  go_wp2_with fail
  refine (rDone p st _ hC1).mono ?_
  rintro e w2 ⟨rfl, rfl⟩
  go_wp2_with fail
  refine (xDone q st _ hR1).mono ?_
  rintro e w3 ⟨rfl, rfl⟩
  go_wp2
  go_ret
  exact ⟨rfl, hC1, hR1, HM1.out⟩
set_option maxRecDepth 5000 in
set_option maxHeartbeats 4000000 in
theorem reads_n (O : OL) (h0 : O.K ≠ 0) (h1 : O.K ≠ 1) (h2 : O.K ≠ 2) (h3 : O.K ≠ 3) (h4 : O.K ≠ 4) (h5 : O.K ≠ 5) (h6 : O.K ≠ 6) (h7 : O.K ≠ 7) (h8 : O.K ≠ 8) (h9 : O.K ≠ 9) (h10 : O.K ≠ 10) (p q : Nat) (hpq : p ≠ q) (st : RS) (w : World) (hC : CR w p st) (hR : RR w q st) (hz : st.1.size ≤ 281474976710656) :
    Calls Try.prog 40 #[.pointer (some ⟨p, 0, none⟩), .pointer (some ⟨q, 0, none⟩), .agg (tabv (ov O) 40)] w fun e w' => e = .returned (.bool true) ∧ CR w' p (rdS O.K O.N st) ∧ RR w' q (rdS O.K O.N st) ∧ Mq p q w w' := by
  have g0 := Has.new w 69 (ov O) 40 _ rfl
  have gb := (Below.refl w.heap.size w).alloc (Nat.le_refl _) (.cells (tabv (ov O) 40) 69)
  have HG := hide gb
  have HH := hide g0
  have hC1 := hC.below gb
  have hR1 := hR.below gb
  have hpl := hC.lt
  have hql := hR.lt
  have HM1 : Hid (Mq p q w (w.alloc (.cells (tabv (ov O) 40) 69))) := Mq.of gb
  have HZ := hide hz
  have c38 := (ocells g0).1
  have e : rdS O.K O.N st = st := by
    unfold rdS
    rw [if_neg h0, if_neg h1, if_neg h2, if_neg h3, if_neg h4, if_neg h5, if_neg h6, if_neg h7]
  rw [e]
  obtain ⟨K, hK⟩ : ∃ K, O.K = K := ⟨_, rfl⟩
  rw [hK] at c38 h0 h1 h2 h3 h4 h5 h6 h7 h8 h9 h10
  have q0 : (K == 0) = false := beq_eq_false_iff_ne.2 h0
  have q1 : (K == 1) = false := beq_eq_false_iff_ne.2 h1
  have q2 : (K == 2) = false := beq_eq_false_iff_ne.2 h2
  have q3 : (K == 3) = false := beq_eq_false_iff_ne.2 h3
  have q4 : (K == 4) = false := beq_eq_false_iff_ne.2 h4
  have q5 : (K == 5) = false := beq_eq_false_iff_ne.2 h5
  have q6 : (K == 6) = false := beq_eq_false_iff_ne.2 h6
  have q7 : (K == 7) = false := beq_eq_false_iff_ne.2 h7
  have q8 : (K == 8) = false := beq_eq_false_iff_ne.2 h8
  have q9 : (K == 9) = false := beq_eq_false_iff_ne.2 h9
  have q10 : (K == 10) = false := beq_eq_false_iff_ne.2 h10
  clear e hK
  have hgs : w.heap.size < (w.alloc (.cells (tabv (ov O) 40) 69)).heap.size := by simp
  clear g0 gb hC hR hz
  generalize hW : w.alloc (.cells (tabv (ov O) 40) 69) = w1 at hC1 hR1 HM1 HG HH c38 hgs
  obtain ⟨g, hgg⟩ : ∃ g, w.heap.size = g := ⟨_, rfl⟩
  rw [hgg] at HH c38 hgs hpl hql
  go_enter Try.func40, Try.ntmps40
  go_wp2
  go_ret
  exact ⟨rfl, hC1, hR1, HM1.out⟩
theorem reads_any (O : OL) (p q : Nat) (hpq : p ≠ q) (st : RS) (w : World) (hC : CR w p st) (hR : RR w q st) (hz : st.1.size ≤ 281474976710656) :
    Calls Try.prog 40 #[.pointer (some ⟨p, 0, none⟩), .pointer (some ⟨q, 0, none⟩), .agg (tabv (ov O) 40)] w fun e w' => e = .returned (.bool true) ∧ CR w' p (rdS O.K O.N st) ∧ RR w' q (rdS O.K O.N st) ∧ Mq p q w w' := by
  by_cases h0 : O.K = 0
  · exact reads_0 O h0 p q hpq st w hC hR hz
  by_cases h1 : O.K = 1
  · exact reads_1 O h1 p q hpq st w hC hR hz
  by_cases h2 : O.K = 2
  · exact reads_2 O h2 p q hpq st w hC hR hz
  by_cases h3 : O.K = 3
  · exact reads_3 O h3 p q hpq st w hC hR hz
  by_cases h4 : O.K = 4
  · exact reads_4 O h4 p q hpq st w hC hR hz
  by_cases h5 : O.K = 5
  · exact reads_5 O h5 p q hpq st w hC hR hz
  by_cases h6 : O.K = 6
  · exact reads_6 O h6 p q hpq st w hC hR hz
  by_cases h7 : O.K = 7
  · exact reads_7 O h7 p q hpq st w hC hR hz
  by_cases h8 : O.K = 8
  · exact reads_8 O h8 p q hpq st w hC hR hz
  by_cases h9 : O.K = 9
  · exact reads_9 O h9 p q hpq st w hC hR hz
  by_cases h10 : O.K = 10
  · exact reads_10 O h10 p q hpq st w hC hR hz
  exact reads_n O h0 h1 h2 h3 h4 h5 h6 h7 h8 h9 h10 p q hpq st w hC hR hz
end Go.Proofs.Ytmcnempkddahcaa
