/-
  The answers that the document fixes.
-/
import Derived.Test.YtbeoojnofblnjaaGSame
namespace Go.Proofs.Ytbeoojnofblnjaa
open Go.RowKit S Go.Shelf Go.Sort
set_option linter.unusedVariables false
set_option linter.unusedSimpArgs false
def u600 : Upd := ⟨1, 0, 600, fun _ => 0, nilB⟩
def p600 : Pen := ⟨true, 0, 600, fun _ => 0⟩
set_option maxRecDepth 100000 in
theorem built_u600 : Try.prog.built 43 [(0, .int .i64 1), (2, .int .i64 600)] = some (tabv u600.v 36) := by kernel_rfl
set_option maxRecDepth 100000 in
theorem built_p600 : Try.prog.built 55 [(0, .bool true), (2, .int .i64 600)] = some (tabv p600.v 35) := by kernel_rfl
theorem built_led (g : Nat) : Try.prog.built 46 [(0, .int .i64 100), (1, .int .i64 300), (2, .slice (some ⟨g, 0, none⟩) 1 1)] = some (tabv (ledv 100 300 (.slice (some ⟨g, 0, none⟩) 1 1)) 3) := by kernel_rfl
theorem built_c1 : Try.prog.built 51 [(0, .int .i64 1)] = some #[.int .i64 1, .int .i64 0] := by kernel_rfl
theorem built_c0 : Try.prog.built 51 [] = some #[.int .i64 0, .int .i64 0] := by kernel_rfl
theorem valid600 : validB u600 = true := by decide +kernel
theorem add600 : addB u600 = true := by decide +kernel
theorem bal600 (b : Int) : balX b [u600] [] = b - 600 := by
  unfold balX
  have e1 : sumIf (lostB []) [u600] = 600 := by decide +kernel
  rw [e1]; simp [sumIf]
theorem balY600 (b : Int) : balY b [u600] [] = b := by
  unfold balY
  have e1 : sumIf (wonB []) [u600] = 0 := by decide +kernel
  rw [e1]; simp [sumIf]
theorem open600 : sortP (opensL true [] [u600]) ++ sortP (opensL false [u600] []) = [p600] := by
  have e : opensL true [] [u600] = [p600] := by
    unfold opensL
    rw [List.filter_cons_of_pos (by decide +kernel), List.filter_nil]
    rfl
  rw [e]; rfl
theorem spend600 : spendA 700 [u600] [] 0 0 = 100 := by decide +kernel
theorem open1 : openN [u600] [] 0 = 1 := by decide +kernel
theorem fold700 (w : World) (g : Nat) (hS : Upds w (some ⟨g, 0, none⟩) [u600]) : Calls Try.prog 9 #[.int .i64 700, .int .i64 300, .slice (some ⟨g, 0, none⟩) 1 1, .slice none 0 0, .agg #[.int .i64 1, .int .i64 0]] w fun e w' => ∃ v, e = .returned (.tuple #[.agg (tabv (ledv 100 300 v) 3), .int .i64 0]) ∧ OwnP w.heap.size w' v [p600] ∧ Below w.heap.size w w' := by
  have h := fold_ok 700 300 (some ⟨g, 0, none⟩) none 1 1 0 0 [u600] [] rfl rfl (by omega) (by omega) (by omega) (by omega) 1 0 (by omega) (by omega) w hS (Upds.nil _ _) (by decide +kernel) (by show _ ∧ _; omega) (by decide +kernel) rfl (by show _ ≤ _; omega)
  refine Calls.mono h ?_
  have t1 : [u600].take 1 = [u600] := rfl
  have t2 : ([] : List Upd).take 0 = [] := rfl
  rw [t1, t2, bal600, balY600, open600]
  rintro e w' (⟨v, _, _, rfl, ho, hb⟩ | ⟨h, _⟩)
  · exact ⟨v, rfl, ho, hb⟩
  · omega
theorem fold500 (w : World) (g : Nat) (hS : Upds w (some ⟨g, 0, none⟩) [u600]) : Calls Try.prog 9 #[.int .i64 500, .int .i64 300, .slice (some ⟨g, 0, none⟩) 1 1, .slice none 0 0, .agg #[.int .i64 1, .int .i64 0]] w fun e w' => e = .returned (.tuple #[.agg (tabv (ledv 0 0 (.slice none 0 0)) 3), .int .i64 130]) ∧ Below w.heap.size w w' := by
  have h := fold_ok 500 300 (some ⟨g, 0, none⟩) none 1 1 0 0 [u600] [] rfl rfl (by omega) (by omega) (by omega) (by omega) 1 0 (by omega) (by omega) w hS (Upds.nil _ _) (by decide +kernel) (by show _ ∧ _; omega) (by decide +kernel) rfl (by show _ ≤ _; omega)
  refine Calls.mono h ?_
  have t1 : [u600].take 1 = [u600] := rfl
  have t2 : ([] : List Upd).take 0 = [] := rfl
  rw [t1, t2, bal600, balY600, open600]
  rintro e w' (⟨v, h, _⟩ | ⟨_, rfl, hb⟩)
  · omega
  · exact ⟨rfl, hb⟩
set_option maxRecDepth 100000 in
set_option maxHeartbeats 1000000 in
theorem first_any (w : World) : Calls Try.prog 4 #[] w fun e w' => e = .returned (.bool true) ∧ Below w.heap.size w w' := by
  have r1 := run_sliceU w u600
  obtain ⟨w1, hW1⟩ : ∃ x, w.alloc (.cells (tabv u600.v 36) 43) = x := ⟨_, rfl⟩
  have u1 : Upds w1 (some ⟨w.heap.size, 0, none⟩) [u600] := by rw [← hW1]; exact upds_one w u600
  have b1 : Below w.heap.size w w1 := by rw [← hW1]; exact (Below.refl _ _).alloc (Nat.le_refl _) _
  rw [hW1] at r1
  have R1 := hide r1
  clear r1 hW1
  generalize hg : w.heap.size = g at R1 u1 b1 ⊢
  go_enter Try.func4, Try.ntmps4
  go_wp2_with (first | refine wpW_build (by rfl) 43 #[(0, .const (.int .i64 1)), (2, .const (.int .i64 600))] rfl [(0, .int .i64 1), (2, .int .i64 600)] (by simp [Act.eval]) _ built_u600 ?_ | refine wpList_slice1 rfl 25 _ rfl (.agg (tabv u600.v 36)) rfl R1.out ?_ | refine wpW_build (by rfl) 51 #[(0, .const (.int .i64 1))] rfl [(0, .int .i64 1)] (by simp [Act.eval]) _ built_c1 ?_)
  refine (fold700 w1 g u1).mono ?_
  rintro e w2 ⟨v, rfl, hO, hb2⟩
  have hg1 : g ≤ w1.heap.size := by rw [← hg] at b1 ⊢; exact b1.size
  have gb2 := b1.trans (hb2.mono hg1)
  have hv := hO.one
  obtain ⟨wa1, hWa1⟩ : ∃ x, w2.alloc (.cells #[.int .i64 0, .int .i64 0, .slice none 0 0] 46) = x := ⟨_, rfl⟩
  have ka1 : Has wa1 w2.heap.size 46 (ledv 0 0 (.slice none 0 0)) 3 := by rw [← hWa1, zeroL]; exact Has.new w2 46 _ 3 _ rfl
  have ba1 : Below w2.heap.size w2 wa1 := by rw [← hWa1]; exact (Below.refl _ _).alloc (Nat.le_refl _) _
  obtain ⟨ws1, hWs1⟩ : ∃ x, wa1.setRow w2.heap.size (tabv (ledv 100 300 (v)) 3) = x := ⟨_, rfl⟩
  have ks1 : Has ws1 w2.heap.size 46 (ledv 100 300 (v)) 3 := by rw [← hWs1]; exact ka1.row _ _ rfl
  have bs1 : Below w2.heap.size w2 ws1 := by rw [← hWs1]; exact below_setRow ba1 (Nat.le_refl _) _
  have KA1 := hide ka1
  clear ka1 ba1
  have gb3 := gb2.trans (bs1.mono (Nat.le_trans hg1 hb2.size))
  have hO3 := hO.below bs1
  have hg3 : g ≤ ws1.heap.size := Nat.le_trans hg1 (Nat.le_trans hb2.size bs1.size)
  have u3 := (u1.below hb2).below bs1
  have hlt1 : w2.heap.size < ws1.heap.size := ks1.lt
  generalize hgL : w2.heap.size = gL at KA1 ks1 hlt1 hWs1
  go_wp2_with (first | refine wpList_storeL rfl _ _ rfl rfl gL 100 300 v hv rfl rfl _ KA1.out ?_ | refine wpW_build (by rfl) 51 #[(0, .const (.int .i64 1))] rfl [(0, .int .i64 1)] (by simp [Act.eval]) _ built_c1 ?_)
  refine (fold500 ws1 g u3).mono ?_
  rintro e w5 ⟨rfl, hb5⟩
  obtain ⟨wa2, hWa2⟩ : ∃ x, w5.alloc (.cells #[.int .i64 0, .int .i64 0, .slice none 0 0] 46) = x := ⟨_, rfl⟩
  have ka2 : Has wa2 w5.heap.size 46 (ledv 0 0 (.slice none 0 0)) 3 := by rw [← hWa2, zeroL]; exact Has.new w5 46 _ 3 _ rfl
  have ba2 : Below w5.heap.size w5 wa2 := by rw [← hWa2]; exact (Below.refl _ _).alloc (Nat.le_refl _) _
  obtain ⟨ws2, hWs2⟩ : ∃ x, wa2.setRow w5.heap.size (tabv (ledv 0 0 (.slice none 0 0)) 3) = x := ⟨_, rfl⟩
  have ks2 : Has ws2 w5.heap.size 46 (ledv 0 0 (.slice none 0 0)) 3 := by rw [← hWs2]; exact ka2.row _ _ rfl
  have bs2 : Below w5.heap.size w5 ws2 := by rw [← hWs2]; exact below_setRow ba2 (Nat.le_refl _) _
  have KA2 := hide ka2
  clear ka2 ba2
  have gb6 := (gb3.trans (hb5.mono hg3)).trans (bs2.mono (Nat.le_trans hg3 hb5.size))
  have hO6 := (hO3.below hb5).below bs2
  have hg6 : g ≤ ws2.heap.size := Nat.le_trans hg3 (Nat.le_trans hb5.size bs2.size)
  have u6 := (u3.below hb5).below bs2
  have k6 := ((ks1.below hb5 hlt1).below bs2 (Nat.lt_of_lt_of_le hlt1 hb5.size))
  generalize hgM : w5.heap.size = gM at KA2 hWs2
  clear hb2 hb5 gb2 gb3 hO hO3 u1 u3 bs1 bs2 ks1 ks2 hg1 hg3 hlt1
  go_wp2_with (first | refine wpList_storeL rfl _ _ rfl rfl gM 0 0 (.slice none 0 0) rfl rfl rfl _ KA2.out ?_ | refine wpW_build (by rfl) 51 #[] rfl [] rfl _ built_c0 ?_)
  have hsp := spend_any 700 (some ⟨g, 0, none⟩) none 1 1 0 0 [u600] [] rfl rfl (by omega) (by omega) (by omega) (by omega) 0 0 ws2 u6 (Upds.nil _ _)
  rw [spend600] at hsp
  refine hsp.mono ?_
  rintro e w7 ⟨rfl, hb7⟩
  have gb7 := gb6.trans (hb7.mono hg6)
  have hO7 := hO6.below hb7
  have hg7 : g ≤ w7.heap.size := Nat.le_trans hg6 hb7.size
  have u7 := u6.below hb7
  have k7 := k6.below hb7 k6.lt
  have r8 := run_sliceP w7 p600
  obtain ⟨w8, hW8⟩ : ∃ x, w7.alloc (.cells (tabv p600.v 35) 55) = x := ⟨_, rfl⟩
  rw [hW8] at r8
  have b8 : Below w7.heap.size w7 w8 := by rw [← hW8]; exact (Below.refl _ _).alloc (Nat.le_refl _) _
  have o8 : OwnP w7.heap.size w8 (.slice (some ⟨w7.heap.size, 0, none⟩) 1 1) [p600] := by
    refine ⟨by rw [cellsP_length], .inr ⟨w7.heap.size, 1, tabv p600.v 35, rfl, Nat.le_refl _, by rw [← hW8]; exact Has.new w7 55 p600.v 35 _ rfl, Nat.le_refl _, by decide, by rw [tabv_size], ?_⟩⟩
    rw [cellsP_one]
    rfl
  have hO8 := hO7.below b8
  have gb8 := gb7.trans (b8.mono hg7)
  have hg8 : g ≤ w8.heap.size := Nat.le_trans hg7 b8.size
  have u8 := u7.below b8
  have R8 := hide r8
  have K7 := hide k7
  have hsl := sameL_any 100 300 [p600] v (.slice (some ⟨w7.heap.size, 0, none⟩) 1 1) _ _ w8 hO8 o8
  have SL := hide hsl
  have OP := hide (fun (w : World) (hS : Upds w (some ⟨g, 0, none⟩) [u600]) => open_any (some ⟨g, 0, none⟩) none 1 1 0 0 [u600] [] rfl rfl (by omega) (by omega) (by omega) (by omega) 0 w hS (Upds.nil _ _))
  generalize hgP : w7.heap.size = gP at R8 SL
  clear hb7 gb6 hO6 u6 k6 k7 r8 o8 hO7 gb7 hg6 hg7 hsp hsl hO8 u7 b8
  go_wp2_with (first | refine wpW_load_at 46 _ rfl gL 0 (by rfl) (by rfl) _ 3 _ (K7.out.at_ 0 (by omega) (fun i hi => by rw [Nat.zero_add])) Try.underlying46 rfl infoL ?_ | refine wpW_build (by rfl) 55 #[(0, .const (.bool true)), (2, .const (.int .i64 600))] rfl [(0, .bool true), (2, .int .i64 600)] (by simp [Act.eval]) _ built_p600 ?_ | refine wpW_slice1 (by rfl) 44 _ rfl (.agg (tabv p600.v 35)) rfl R8.out ?_ | refine wpW_build (by rfl) 46 _ rfl [(0, .int .i64 100), (1, .int .i64 300), (2, .slice (some ⟨gP, 0, none⟩) 1 1)] (by rfl) _ (built_led gP) ?_ | (go_at_call 11; go_must (refine SL.out.mono ?_); rintro e w9 ⟨rfl, hb9⟩; have u9 := u8.below hb9) | (go_at_call 12; go_must (refine (OP.out w9 u9).mono ?_); rintro e wA ⟨rfl, hbA⟩; rw [open1]))
  go_ret
  exact ⟨by simp, (gb8.trans (hb9.mono hg8)).trans (hbA.mono (Nat.le_trans hg8 hb9.size))⟩
end Go.Proofs.Ytbeoojnofblnjaa
