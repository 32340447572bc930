/-
  RecordSteps (printed by gen_r14.py).
-/
import Derived.Test.YtlohfoggcdaeiaaGreatRStepM
import Derived.Deep.DeepCutAuto
import Derived.Deep.Cut
namespace Go.Proofs.YtlohfoggcdaeiaaGreat
open Go.RowKit S
set_option linter.unusedVariables false
set_option linter.unusedSimpArgs false
open Cu (nb be hl ofL CW Mw CR Mr RS takeS takeA hOf nil8 doneS)
def s0 (a b : Int) : St := ⟨0, 0, 0, 0, ⟨none, 0, 0⟩, ⟨none, 0, 0⟩, a, b, b, 0, 0, 0, 0, 0, 0, false, fun _ => 0, fun _ => 0, fun _ => 0, ⟨none, 0, 0⟩, 0, -1⟩
def sS (a b c d : Int) : St := ⟨0, 0, 0, 0, ⟨none, 0, 0⟩, ⟨none, 0, 0⟩, a, b, b, 0, 0, 0, c, 0, d, false, fun _ => 0, fun _ => 0, fun _ => 0, ⟨none, 0, 0⟩, 0, -1⟩
set_option maxRecDepth 100000 in
theorem builtS3 (a b : Int) : Tryz.prog.built 31 [(6, .int .i64 a), (7, .int .i64 b), (8, .int .i64 b), (17, .int .i64 (-1))] = some (tabv (s0 a b).v 115) := by kernel_rfl
theorem Has.sSp {w : World} {g : Nat} {a b c d : Int} (h : Has w g 31 (sS a b c d).v 115) (x : Int) : Has (w.setCell ⟨g, 12, none⟩ (.int .i64 x)) g 31 (sS a b x d).v 115 :=
  (h.set 12 _).congr _ (fun i hi => by
    unfold upd
    by_cases e : i = 12
    · subst e; rfl
    · rw [if_neg e]
      unfold sS St.v
      by_cases e2 : i < 12
      · simp only [e2, if_true]
      · simp only [show (i < 12) = False from eq_false (by omega), show (i < 13) = False from eq_false (by omega), if_false])
theorem Has.sHp {w : World} {g : Nat} {a b c d : Int} (h : Has w g 31 (sS a b c d).v 115) (x : Int) : Has (w.setCell ⟨g, 14, none⟩ (.int .i64 x)) g 31 (sS a b c x).v 115 :=
  (h.set 14 _).congr _ (fun i hi => by
    unfold upd
    by_cases e : i = 14
    · subst e; rfl
    · rw [if_neg e]
      unfold sS St.v
      by_cases e2 : i < 14
      · simp only [e2, if_true]
      · simp only [show (i < 14) = False from eq_false (by omega), show (i < 15) = False from eq_false (by omega), if_false])
set_option maxRecDepth 100000 in
set_option maxHeartbeats 40000000 in
theorem steps_walk [Inhabited S.Tbl] (la lb c d : Int) (h : Nat → UInt8) (co : Int) (w : World) (hG : Glob num w) : Calls Tryz.prog 3 #[.int .i64 la, .int .i64 lb, .agg #[.int .i64 c, .int .i64 d], .agg (tabv (bv h) 32), .int .i64 co] w fun e w' => e = .returned (.bool true) ∧ Below w.heap.size w w' := by
  have h2 := hG.2.2
  obtain ⟨w1, hW1⟩ : ∃ w1, (w.alloc (.cells (tabv (ctv c d) 2) 23)).alloc (.cells (tabv (bv h) 32) 25) = w1 := ⟨_, rfl⟩
  have F7 := hide (show Has w1 w.heap.size 23 (ctv c d) 2 by rw [← hW1]; exact (Has.new w 23 (ctv c d) 2 _ rfl).old _)
  have F8 := hide (show Has w1 (w.heap.size + 1) 25 (bv h) 32 by
    rw [← hW1]
    have := Has.new (w.alloc (.cells (tabv (ctv c d) 2) 23)) 25 (bv h) 32 _ rfl
    rw [size_alloc] at this
    exact this)
  have g1 : Below w.heap.size w w1 := by rw [← hW1]; exact ((Below.refl w.heap.size w).alloc (Nat.le_refl _) _).alloc (by simp) _
  have hW1 : (w.alloc (.cells #[.int .i64 c, .int .i64 d] 23)).alloc (.cells (tabv (bv h) 32) 25) = w1 := hW1
  obtain ⟨a, ha⟩ : ∃ a, bits .and .i64 la 1099511627775 = a := ⟨_, rfl⟩
  obtain ⟨b, hb⟩ : ∃ b, bits .and .i64 lb 1099511627775 = b := ⟨_, rfl⟩
  obtain ⟨k, hk⟩ : ∃ k, bits .and .i64 co 65535 = k := ⟨_, rfl⟩
  have ba : 0 ≤ a ∧ a < 1099511627776 := by rw [← ha]; exact and_lt la 40 (by omega)
  have bb : 0 ≤ b ∧ b < 1099511627776 := by rw [← hb]; exact and_lt lb 40 (by omega)
  have bk : 0 ≤ k ∧ k < 65536 := by rw [← hk]; exact and_lt co 16 (by omega)
  obtain ⟨a0, a9⟩ := ba
  obtain ⟨b0, b9⟩ := bb
  obtain ⟨k0, k9⟩ := bk
  have HD := hide (head_any w1 (hG.below g1 h2))
  go_enter Tryz.func3, Tryz.ntmps3
  go_wp2_with (first | rw [hW1] | fail)
  try rw [hW1]
  refine HD.out.mono ?_
  rintro e w2 ⟨rfl, hbq⟩
  have g2 : Below w.heap.size w w2 := g1.trans (hbq.mono g1.size)
  replace F7 := hide (F7.out.below hbq F7.out.lt)
  replace F8 := hide (F8.out.below hbq F8.out.lt)
  clear hbq g1 hW1 HD
  go_upto_region 5 with fail
  obtain ⟨w3, w4, hW3, q3, hW4, q4, b4⟩ := newSt w2 (s0 a b)
  have Q3 := hide q3
  go_upto_region 6 with (first | rw [hW4] | (go_big_may; first | refine wpW_build (by rfl) 31 #[(6, .tmp 36), (7, .tmp 37), (8, .tmp 38), (17, .const (.int .i64 (-1)))] rfl [(6, .int .i64 a), (7, .int .i64 b), (8, .int .i64 b), (17, .int .i64 (-1))] (by first | rfl | (simp [Act.eval, Act.put]; done)) _ (builtS3 a b) ?_ | refine wpList_storeSt rfl _ _ rfl rfl (w2.heap.size) (s0 a b) rfl rfl _ Q3.out ?_) | fail)
  try rw [hW4]
  obtain ⟨g13, hg13⟩ : ∃ g13, w2.heap.size = g13 := ⟨_, rfl⟩
  rw [hg13] at q4 ⊢
  have hg7 : w.heap.size ≤ g13 := by rw [← hg13]; exact g2.size
  have hg71 : w.heap.size < g13 := by rw [← hg13]; exact F7.out.lt
  have f8lt : w.heap.size + 1 < g13 := by rw [← hg13]; exact F8.out.lt
  have g4 : Below w.heap.size w w4 := g2.trans (b4.mono g2.size)
  replace F7 := hide (F7.out.below b4 F7.out.lt)
  replace F8 := hide (F8.out.below b4 F8.out.lt)
  have hg81 : w.heap.size + 1 < g13 := f8lt
  clear hW3 hW4 Q3 q3 b4 hg13 g2
  have q4 : Has w4 g13 31 (sS a b 0 0).v 115 := q4
  have c1 : w4.cell? ⟨w.heap.size, 1, none⟩ = some (.int .i64 d) := F7.out.cell 1 (by omega)
  have c2 : w4.cell? ⟨g13, 12, none⟩ = some (.int .i64 0) := q4.cell 12 (by omega)
  have f2 := q4.frozen 12
  obtain ⟨w5, hW5⟩ : ∃ w5, w4.setCell ⟨g13, 12, none⟩ (.int .i64 d) = w5 := ⟨_, rfl⟩
  have q5 : Has w5 g13 31 (sS a b d 0).v 115 := by rw [← hW5]; exact q4.sSp d
  have g5 : Below w.heap.size w w5 := by rw [← hW5]; exact g4.setCell hg7 _
  replace F7 := hide (show Has w5 w.heap.size 23 (ctv c d) 2 by rw [← hW5]; exact F7.out.other _ _ (by show w.heap.size ≠ g13; omega))
  replace F8 := hide (show Has w5 (w.heap.size + 1) 25 (bv h) 32 by rw [← hW5]; exact F8.out.other _ _ (by show w.heap.size + 1 ≠ g13; omega))
  go_upto_region 7 with (first | rw [hW5] | fail)
  try rw [hW5]
  clear c1 c2 f2 hW5 q4 g4
  have c1 : w5.cell? ⟨w.heap.size, 0, none⟩ = some (.int .i64 c) := F7.out.cell 0 (by omega)
  have c2 : w5.cell? ⟨g13, 14, none⟩ = some (.int .i64 0) := q5.cell 14 (by omega)
  have f2 := q5.frozen 14
  obtain ⟨w6, hW6⟩ : ∃ w6, w5.setCell ⟨g13, 14, none⟩ (.int .i64 c) = w6 := ⟨_, rfl⟩
  have F13 := hide (show Has w6 g13 31 (sS a b d c).v 115 by rw [← hW6]; exact q5.sHp c)
  have g6 : Below w.heap.size w w6 := by rw [← hW6]; exact g5.setCell hg7 _
  replace F8 := hide (show Has w6 (w.heap.size + 1) 25 (bv h) 32 by rw [← hW6]; exact F8.out.other _ _ (by show w.heap.size + 1 ≠ g13; omega))
  go_upto_region 8 with (first | rw [hW6] | fail)
  try rw [hW6]
  clear c1 c2 f2 hW6 q5 g5 F7 hg7 hg71 hg81
  generalize hg8 : w.heap.size + 1 = g8 at F8 ⊢
  clear hg8
  obtain ⟨S, hS⟩ : ∃ S, sS a b d c = S := ⟨_, rfl⟩
  have hS1 : S.loc = a ∧ S.rem = b ∧ S.ack = b ∧ S.ap = 0 ∧ S.so = 0 ∧ S.fail = 0 := by rw [← hS]; exact ⟨rfl, rfl, rfl, rfl, rfl, rfl⟩
  have hS2 : S.ours = nilS ∧ S.peers = nilS ∧ S.shelf = nilS := by rw [← hS]; exact ⟨rfl, rfl, rfl⟩
  have hS3 : S.p1 = z32 ∧ S.ho = 0 := by rw [← hS]; exact ⟨rfl, rfl⟩
  rw [hS] at F13
  have HS1 := hide hS1
  have HS2 := hide hS2
  have HS3 := hide hS3
  clear hS hS1 hS2 hS3
  have GG := hide hG
  have bw6 := g6
  clear hG g6
  have wb : Hid (wrap64 (b + 1) = b + 1) := by show _ = _; unfold wrap64; omega
  have wa : Hid (wrap64 (a + 1) = a + 1) := by show _ = _; unfold wrap64; omega
  have AP := hide (apply_any S [] [] [] (by rw [HS2.out.1]; rfl) (by rw [HS2.out.2.1]; rfl) (by rw [HS2.out.2.2]; rfl) (by simp) (by simp) (by simp) (sgR (b + 1) 0 0) [] rfl w6 (Upds.nil _ _) (Upds.nil _ _) (.inl rfl) (Upds.nil _ _) (GG.out.below bw6 h2))
  have okx : apOk S [] [] [] (sgR (b + 1) 0 0) [] = true := by rw [ok_sg _ _ _ (by omega) (by omega) (by omega)]; unfold sgOk; rw [HS1.out.2.1, HS1.out.2.2.1, HS1.out.2.2.2.1, HS1.out.2.2.2.2.1, wb.out]; simp
  go_wp2_with (first | refine wpW_load_at 31 _ rfl (g13) (0) (by rfl) (by rfl) _ 115 _ (F13.out.at_ 0 (by omega) (fun i hi => by rw [Nat.zero_add])) Tryz.underlying31 rfl infoSt ?_ | refine wpW_build (by rfl) 38 #[(0, .const (.int .i64 2)), (3, .tmp 51)] rfl [(0, .int .i64 2), (3, .int .i64 (b + 1))] (by first | rfl | (simp [Act.eval, Act.put]; done)) _ (builtRx (b + 1)) ?_ | fail)
  refine AP.out.mono ?_
  rintro e w7 ⟨hbq, hA⟩
  obtain ⟨t1, t2, t3, rfl, hOS⟩ := hA.yes okx
  have bw7 : Below w.heap.size w w7 := bw6.trans (hbq.mono bw6.size)
  replace F8 := hide (F8.out.below hbq F8.out.lt)
  replace F13 := hide (F13.out.below hbq F13.out.lt)
  clear hbq hA AP okx bw6
  obtain ⟨T, hT⟩ : ∃ y, setSl (newS S [] (sgR (b + 1) 0 0) []) t1 t2 t3 = y := ⟨_, rfl⟩
  have hOS : OS w6.heap.size w7 (setSl (newS S [] (sgR (b + 1) 0 0) []) t1 t2 t3) [] [] [] := hOS
  rw [hT] at hOS ⊢
  obtain ⟨w8, w9, hWa, qa, hWb, qb, bq⟩ := newSt w7 T
  have Qa := hide qa
  go_upto_region 9 with (first | rw [hWb] | (go_big_may; first | refine wpList_storeSt rfl _ _ rfl rfl (w7.heap.size) (T) rfl rfl _ Qa.out ?_) | fail)
  try rw [hWb]
  have bw9 : Below w.heap.size w w9 := bw7.trans (bq.mono bw7.size)
  obtain ⟨g14, hgv⟩ : ∃ y, w7.heap.size = y := ⟨_, rfl⟩
  rw [hgv] at qb ⊢
  replace F8 := hide (F8.out.below bq F8.out.lt)
  replace F13 := hide (F13.out.below bq F13.out.lt)
  have FT := hide qb
  have OT := hide (hOS.below bq)
  clear hOS
  clear hWa hWb Qa qa qb bq hgv bw7
  have AP := hide (apply_any S [] [] [] (by rw [HS2.out.1]; rfl) (by rw [HS2.out.2.1]; rfl) (by rw [HS2.out.2.2]; rfl) (by simp) (by simp) (by simp) (sgR b 0 0) [] rfl w9 (Upds.nil _ _) (Upds.nil _ _) (.inl rfl) (Upds.nil _ _) (GG.out.below bw9 h2))
  have okx : apOk S [] [] [] (sgR b 0 0) [] = false := by rw [ok_sg _ _ _ (by omega) (by omega) (by omega)]; unfold sgOk; rw [HS1.out.2.1, HS1.out.2.2.1, HS1.out.2.2.2.1, HS1.out.2.2.2.2.1, wb.out]; first | (simp; done) | (simp; omega)
  go_wp2_with (first | refine wpW_load_at 31 _ rfl (g13) (0) (by rfl) (by rfl) _ 115 _ (F13.out.at_ 0 (by omega) (fun i hi => by rw [Nat.zero_add])) Tryz.underlying31 rfl infoSt ?_ | refine wpW_build (by rfl) 38 #[(0, .const (.int .i64 2)), (3, .tmp 58)] rfl [(0, .int .i64 2), (3, .int .i64 (b))] (by first | rfl | (simp [Act.eval, Act.put]; done)) _ (builtRx (b)) ?_ | fail)
  refine AP.out.mono ?_
  rintro e w10 ⟨hbq, hA⟩
  obtain rfl := hA.no okx
  have bw10 : Below w.heap.size w w10 := bw9.trans (hbq.mono bw9.size)
  replace F8 := hide (F8.out.below hbq F8.out.lt)
  replace F13 := hide (F13.out.below hbq F13.out.lt)
  replace FT := hide (FT.out.below hbq FT.out.lt)
  replace OT := hide (OT.out.below hbq)
  clear hbq hA AP okx bw9
  obtain ⟨w11, w12, hWa, qa, hWb, qb, bq⟩ := newSt w10 St.zero
  have Qa := hide qa
  go_upto_region 10 with (first | rw [hWb] | (go_big_may; first | refine wpList_storeSt rfl _ _ rfl rfl (w10.heap.size) (St.zero) rfl rfl _ Qa.out ?_) | fail)
  try rw [hWb]
  have bw12 : Below w.heap.size w w12 := bw10.trans (bq.mono bw10.size)
  obtain ⟨gx1, hgv⟩ : ∃ y, w10.heap.size = y := ⟨_, rfl⟩
  rw [hgv] at qb ⊢
  replace F8 := hide (F8.out.below bq F8.out.lt)
  replace F13 := hide (F13.out.below bq F13.out.lt)
  replace FT := hide (FT.out.below bq FT.out.lt)
  replace OT := hide (OT.out.below bq)
  clear hWa hWb Qa qa qb bq hgv bw10
  have AP := hide (apply_any S [] [] [] (by rw [HS2.out.1]; rfl) (by rw [HS2.out.2.1]; rfl) (by rw [HS2.out.2.2]; rfl) (by simp) (by simp) (by simp) (sgR (b + 2) 0 0) [] rfl w12 (Upds.nil _ _) (Upds.nil _ _) (.inl rfl) (Upds.nil _ _) (GG.out.below bw12 h2))
  have okx : apOk S [] [] [] (sgR (b + 2) 0 0) [] = false := by rw [ok_sg _ _ _ (by omega) (by omega) (by omega)]; unfold sgOk; rw [HS1.out.2.1, HS1.out.2.2.1, HS1.out.2.2.2.1, HS1.out.2.2.2.2.1, wb.out]; first | (simp; done) | (simp; omega)
  go_wp2_with (first | refine wpW_load_at 31 _ rfl (g13) (0) (by rfl) (by rfl) _ 115 _ (F13.out.at_ 0 (by omega) (fun i hi => by rw [Nat.zero_add])) Tryz.underlying31 rfl infoSt ?_ | refine wpW_build (by rfl) 38 #[(0, .const (.int .i64 2)), (3, .tmp 66)] rfl [(0, .int .i64 2), (3, .int .i64 (b + 2))] (by first | rfl | (simp [Act.eval, Act.put]; done)) _ (builtRx (b + 2)) ?_ | fail)
  refine AP.out.mono ?_
  rintro e w13 ⟨hbq, hA⟩
  obtain rfl := hA.no okx
  have bw13 : Below w.heap.size w w13 := bw12.trans (hbq.mono bw12.size)
  replace F8 := hide (F8.out.below hbq F8.out.lt)
  replace F13 := hide (F13.out.below hbq F13.out.lt)
  replace FT := hide (FT.out.below hbq FT.out.lt)
  replace OT := hide (OT.out.below hbq)
  clear hbq hA AP okx bw12
  obtain ⟨w14, w15, hWa, qa, hWb, qb, bq⟩ := newSt w13 St.zero
  have Qa := hide qa
  go_upto_region 11 with (first | rw [hWb] | (go_big_may; first | refine wpList_storeSt rfl _ _ rfl rfl (w13.heap.size) (St.zero) rfl rfl _ Qa.out ?_) | fail)
  try rw [hWb]
  have bw15 : Below w.heap.size w w15 := bw13.trans (bq.mono bw13.size)
  obtain ⟨gx2, hgv⟩ : ∃ y, w13.heap.size = y := ⟨_, rfl⟩
  rw [hgv] at qb ⊢
  replace F8 := hide (F8.out.below bq F8.out.lt)
  replace F13 := hide (F13.out.below bq F13.out.lt)
  replace FT := hide (FT.out.below bq FT.out.lt)
  replace OT := hide (OT.out.below bq)
  clear hWa hWb Qa qa qb bq hgv bw13
  have AP := hide (apply_any S [] [] [] (by rw [HS2.out.1]; rfl) (by rw [HS2.out.2.1]; rfl) (by rw [HS2.out.2.2]; rfl) (by simp) (by simp) (by simp) (sgR (b + 1) 1 0) [] rfl w15 (Upds.nil _ _) (Upds.nil _ _) (.inl rfl) (Upds.nil _ _) (GG.out.below bw15 h2))
  have okx : apOk S [] [] [] (sgR (b + 1) 1 0) [] = false := by rw [ok_sg _ _ _ (by omega) (by omega) (by omega)]; unfold sgOk; rw [HS1.out.2.1, HS1.out.2.2.1, HS1.out.2.2.2.1, HS1.out.2.2.2.2.1, wb.out]; simp
  go_wp2_with (first | refine wpW_load_at 31 _ rfl (g13) (0) (by rfl) (by rfl) _ 115 _ (F13.out.at_ 0 (by omega) (fun i hi => by rw [Nat.zero_add])) Tryz.underlying31 rfl infoSt ?_ | refine wpW_build (by rfl) 23 #[(0, .const (.int .i64 1))] rfl [(0, .int .i64 1)] (by first | rfl | (simp [Act.eval, Act.put]; done)) _ (builtC1 1) ?_ | refine wpW_build (by rfl) 38 #[(0, .const (.int .i64 2)), (3, .tmp 74), (4, .tmp 75)] rfl [(0, .int .i64 2), (3, .int .i64 (b + 1)), (4, .agg (tabv (ctv 1 0) 2))] (by first | rfl | (simp [Act.eval, Act.put]; done)) _ (builtR2 (b + 1) 1 0) ?_ | fail)
  refine AP.out.mono ?_
  rintro e w16 ⟨hbq, hA⟩
  obtain rfl := hA.no okx
  have bw16 : Below w.heap.size w w16 := bw15.trans (hbq.mono bw15.size)
  replace F8 := hide (F8.out.below hbq F8.out.lt)
  replace F13 := hide (F13.out.below hbq F13.out.lt)
  replace FT := hide (FT.out.below hbq FT.out.lt)
  replace OT := hide (OT.out.below hbq)
  clear hbq hA AP okx bw15
  obtain ⟨w17, w18, hWa, qa, hWb, qb, bq⟩ := newSt w16 St.zero
  have Qa := hide qa
  go_upto_region 12 with (first | rw [hWb] | (go_big_may; first | refine wpList_storeSt rfl _ _ rfl rfl (w16.heap.size) (St.zero) rfl rfl _ Qa.out ?_) | fail)
  try rw [hWb]
  have bw18 : Below w.heap.size w w18 := bw16.trans (bq.mono bw16.size)
  obtain ⟨gx3, hgv⟩ : ∃ y, w16.heap.size = y := ⟨_, rfl⟩
  rw [hgv] at qb ⊢
  replace F8 := hide (F8.out.below bq F8.out.lt)
  replace F13 := hide (F13.out.below bq F13.out.lt)
  replace FT := hide (FT.out.below bq FT.out.lt)
  replace OT := hide (OT.out.below bq)
  clear hWa hWb Qa qa qb bq hgv bw16
  have AP := hide (apply_any S [] [] [] (by rw [HS2.out.1]; rfl) (by rw [HS2.out.2.1]; rfl) (by rw [HS2.out.2.2]; rfl) (by simp) (by simp) (by simp) (sgR (b + 1) 0 1) [] rfl w18 (Upds.nil _ _) (Upds.nil _ _) (.inl rfl) (Upds.nil _ _) (GG.out.below bw18 h2))
  have okx : apOk S [] [] [] (sgR (b + 1) 0 1) [] = false := by rw [ok_sg _ _ _ (by omega) (by omega) (by omega)]; unfold sgOk; rw [HS1.out.2.1, HS1.out.2.2.1, HS1.out.2.2.2.1, HS1.out.2.2.2.2.1, wb.out]; simp
  go_wp2_with (first | refine wpW_load_at 31 _ rfl (g13) (0) (by rfl) (by rfl) _ 115 _ (F13.out.at_ 0 (by omega) (fun i hi => by rw [Nat.zero_add])) Tryz.underlying31 rfl infoSt ?_ | refine wpW_build (by rfl) 23 #[(1, .const (.int .i64 1))] rfl [(1, .int .i64 1)] (by first | rfl | (simp [Act.eval, Act.put]; done)) _ (builtC2 1) ?_ | refine wpW_build (by rfl) 38 #[(0, .const (.int .i64 2)), (3, .tmp 83), (4, .tmp 84)] rfl [(0, .int .i64 2), (3, .int .i64 (b + 1)), (4, .agg (tabv (ctv 0 1) 2))] (by first | rfl | (simp [Act.eval, Act.put]; done)) _ (builtR2 (b + 1) 0 1) ?_ | fail)
  refine AP.out.mono ?_
  rintro e w19 ⟨hbq, hA⟩
  obtain rfl := hA.no okx
  have bw19 : Below w.heap.size w w19 := bw18.trans (hbq.mono bw18.size)
  replace F8 := hide (F8.out.below hbq F8.out.lt)
  replace F13 := hide (F13.out.below hbq F13.out.lt)
  replace FT := hide (FT.out.below hbq FT.out.lt)
  replace OT := hide (OT.out.below hbq)
  clear hbq hA AP okx bw18
  obtain ⟨w20, w21, hWa, qa, hWb, qb, bq⟩ := newSt w19 St.zero
  have Qa := hide qa
  go_upto_region 13 with (first | rw [hWb] | (go_big_may; first | refine wpList_storeSt rfl _ _ rfl rfl (w19.heap.size) (St.zero) rfl rfl _ Qa.out ?_) | fail)
  try rw [hWb]
  have bw21 : Below w.heap.size w w21 := bw19.trans (bq.mono bw19.size)
  obtain ⟨gx4, hgv⟩ : ∃ y, w19.heap.size = y := ⟨_, rfl⟩
  rw [hgv] at qb ⊢
  replace F8 := hide (F8.out.below bq F8.out.lt)
  replace F13 := hide (F13.out.below bq F13.out.lt)
  replace FT := hide (FT.out.below bq FT.out.lt)
  replace OT := hide (OT.out.below bq)
  clear hWa hWb Qa qa qb bq hgv bw19
  have hT1 : T.loc = a ∧ T.rem = b + 1 ∧ T.ack = b ∧ T.ap = 0 ∧ T.so = 0 ∧ T.sp = 0 ∧ T.beh = true ∧ T.p1 = z32 ∧ T.ho = 0 := by
    rw [← hT]
    exact ⟨HS1.out.1, rfl, HS1.out.2.2.1, HS1.out.2.2.2.1, rfl, rfl, rfl, HS3.out.1, HS3.out.2⟩
  have HT1 := hide hT1
  have d7 : w21.cell? ⟨g14, 7, none⟩ = some (.int .i64 (b + 1)) := by rw [FT.out.cell 7 (by omega), ← hT1.2.1]; rfl
  have d15 : w21.cell? ⟨g14, 15, none⟩ = some (.bool true) := by rw [FT.out.cell 15 (by omega), ← hT1.2.2.2.2.2.2.1]; rfl
  have aC : Hid (At w21 g14 11 (ctv 0 0) 2) := FT.out.atSt 11 0 0 (by omega) (by rw [St.v_so, hT1.2.2.2.2.1]) (by rw [St.v_sp, hT1.2.2.2.2.2.1])
  have EC : Hid (∀ w : World, (Op.equalIn 10000 23 (.agg (tabv (ctv 0 0) 2)) (.agg (tabv (ctv 0 0) 2))).run Tryz.prog w = .ok true w) := fun w => eqCD w 0 0 0 0
  clear hT hT1
  go_upto_region 15 with (first | (go_big_may; first | refine wpW_load_at 23 _ rfl (g14) (11) (by rfl) (by rfl) _ 2 _ (aC.out) Tryz.underlying23 rfl infoC ?_ | refine wpW_build (by rfl) 23 #[] rfl [] (by first | rfl | (simp [Act.eval, Act.put]; done)) _ builtCZ ?_ | refine wpW_neC (by rfl) (.tmp 100) (.tmp 101) rfl _ _ _ (by rfl) (by rfl) EC.out ?_) | fail)
  clear d7 d15 aC
  have AP := hide (apply_os (s := T) (rvR b h h) [] rfl w21 OT.out (by simp) (by simp) (by simp) (Upds.nil _ _) (GG.out.below bw21 h2))
  have okx : apOk T [] [] [] (rvR b h h) [] = true := by rw [ok_rv _ _ _ (by omega)]; unfold rvOk; rw [HT1.out.2.1, HT1.out.2.2.1, wb.out, (put_none b h (by omega)).1]; simp
  go_wp2_with (first | refine wpW_load_at 31 _ rfl (g14) (0) (by rfl) (by rfl) _ 115 _ (FT.out.at_ 0 (by omega) (fun i hi => by rw [Nat.zero_add])) Tryz.underlying31 rfl infoSt ?_ | refine wpW_load_at 25 _ rfl (g8) (0) (by rfl) (by rfl) _ 32 _ (F8.out.at_ 0 (by omega) (fun i hi => by rw [Nat.zero_add])) Tryz.underlying25 rfl info26 ?_ | refine wpW_build (by rfl) 38 #[(0, .const (.int .i64 4)), (3, .tmp 127), (6, .tmp 128), (7, .tmp 129)] rfl [(0, .int .i64 4), (3, .int .i64 (b)), (6, .agg (tabv (bv h) 32)), (7, .agg (tabv (bv h) 32))] (by first | rfl | (simp [Act.eval, Act.put]; done)) _ (builtRv4 (b) h h) ?_ | fail)
  refine AP.out.mono ?_
  rintro e w22 ⟨hbq, hA⟩
  obtain ⟨u1, u2, u3, rfl, hOS⟩ := hA.yes okx
  have bw22 : Below w.heap.size w w22 := bw21.trans (hbq.mono bw21.size)
  replace F8 := hide (F8.out.below hbq F8.out.lt)
  replace F13 := hide (F13.out.below hbq F13.out.lt)
  replace FT := hide (FT.out.below hbq FT.out.lt)
  replace OT := hide (OT.out.below hbq)
  clear hbq hA AP okx bw21
  obtain ⟨U, hU⟩ : ∃ y, setSl (newS T [] (rvR b h h) []) u1 u2 u3 = y := ⟨_, rfl⟩
  have hOS : OS w21.heap.size w22 (setSl (newS T [] (rvR b h h) []) u1 u2 u3) [] [] (putA [] b h).1 := hOS
  rw [hU] at hOS ⊢
  obtain ⟨w23, w24, hWa, qa, hWb, qb, bq⟩ := newSt w22 U
  have Qa := hide qa
  go_upto_region 16 with (first | rw [hWb] | (go_big_may; first | refine wpList_storeSt rfl _ _ rfl rfl (w22.heap.size) (U) rfl rfl _ Qa.out ?_) | fail)
  try rw [hWb]
  have bw24 : Below w.heap.size w w24 := bw22.trans (bq.mono bw22.size)
  obtain ⟨g24, hgv⟩ : ∃ y, w22.heap.size = y := ⟨_, rfl⟩
  rw [hgv] at qb ⊢
  replace F8 := hide (F8.out.below bq F8.out.lt)
  replace F13 := hide (F13.out.below bq F13.out.lt)
  replace FT := hide (FT.out.below bq FT.out.lt)
  replace OT := hide (OT.out.below bq)
  have FU := hide qb
  have OU := hide (hOS.below bq)
  clear hOS
  clear hWa hWb Qa qa qb bq hgv bw22
  have AP := hide (apply_os (s := T) (rvR (b + 1) h h) [] rfl w24 OT.out (by simp) (by simp) (by simp) (Upds.nil _ _) (GG.out.below bw24 h2))
  have okx : apOk T [] [] [] (rvR (b + 1) h h) [] = false := by rw [ok_rv _ _ _ (by omega)]; unfold rvOk; rw [HT1.out.2.1, HT1.out.2.2.1, wb.out, show (b + 1 == b) = false from beq_false_of_ne (by omega)]; simp
  go_wp2_with (first | refine wpW_load_at 31 _ rfl (g14) (0) (by rfl) (by rfl) _ 115 _ (FT.out.at_ 0 (by omega) (fun i hi => by rw [Nat.zero_add])) Tryz.underlying31 rfl infoSt ?_ | refine wpW_load_at 25 _ rfl (g8) (0) (by rfl) (by rfl) _ 32 _ (F8.out.at_ 0 (by omega) (fun i hi => by rw [Nat.zero_add])) Tryz.underlying25 rfl info26 ?_ | refine wpW_build (by rfl) 38 #[(0, .const (.int .i64 4)), (3, .tmp 137), (6, .tmp 138), (7, .tmp 139)] rfl [(0, .int .i64 4), (3, .int .i64 (b + 1)), (6, .agg (tabv (bv h) 32)), (7, .agg (tabv (bv h) 32))] (by first | rfl | (simp [Act.eval, Act.put]; done)) _ (builtRv4 (b + 1) h h) ?_ | fail)
  refine AP.out.mono ?_
  rintro e w25 ⟨hbq, hA⟩
  obtain rfl := hA.no okx
  have bw25 : Below w.heap.size w w25 := bw24.trans (hbq.mono bw24.size)
  replace F8 := hide (F8.out.below hbq F8.out.lt)
  replace F13 := hide (F13.out.below hbq F13.out.lt)
  replace FT := hide (FT.out.below hbq FT.out.lt)
  replace OT := hide (OT.out.below hbq)
  replace FU := hide (FU.out.below hbq FU.out.lt)
  replace OU := hide (OU.out.below hbq)
  clear hbq hA AP okx bw24
  go_upto_region 17 with fail
  have AP := hide (apply_any S [] [] [] (by rw [HS2.out.1]; rfl) (by rw [HS2.out.2.1]; rfl) (by rw [HS2.out.2.2]; rfl) (by simp) (by simp) (by simp) (rvR b h h) [] rfl w25 (Upds.nil _ _) (Upds.nil _ _) (.inl rfl) (Upds.nil _ _) (GG.out.below bw25 h2))
  have okx : apOk S [] [] [] (rvR b h h) [] = false := by rw [ok_rv _ _ _ (by omega)]; unfold rvOk; rw [HS1.out.2.1, HS1.out.2.2.1, wb.out, show (b == b + 1) = false from beq_false_of_ne (by omega)]; simp
  go_wp2_with (first | refine wpW_load_at 31 _ rfl (g13) (0) (by rfl) (by rfl) _ 115 _ (F13.out.at_ 0 (by omega) (fun i hi => by rw [Nat.zero_add])) Tryz.underlying31 rfl infoSt ?_ | refine wpW_load_at 25 _ rfl (g8) (0) (by rfl) (by rfl) _ 32 _ (F8.out.at_ 0 (by omega) (fun i hi => by rw [Nat.zero_add])) Tryz.underlying25 rfl info26 ?_ | refine wpW_build (by rfl) 38 #[(0, .const (.int .i64 4)), (3, .tmp 146), (6, .tmp 147), (7, .tmp 148)] rfl [(0, .int .i64 4), (3, .int .i64 (b)), (6, .agg (tabv (bv h) 32)), (7, .agg (tabv (bv h) 32))] (by first | rfl | (simp [Act.eval, Act.put]; done)) _ (builtRv4 (b) h h) ?_ | fail)
  refine AP.out.mono ?_
  rintro e w26 ⟨hbq, hA⟩
  obtain rfl := hA.no okx
  have bw26 : Below w.heap.size w w26 := bw25.trans (hbq.mono bw25.size)
  replace F8 := hide (F8.out.below hbq F8.out.lt)
  replace F13 := hide (F13.out.below hbq F13.out.lt)
  replace FT := hide (FT.out.below hbq FT.out.lt)
  replace OT := hide (OT.out.below hbq)
  replace FU := hide (FU.out.below hbq FU.out.lt)
  replace OU := hide (OU.out.below hbq)
  clear hbq hA AP okx bw25
  go_upto_region 18 with fail
  have hU1 : U.ack = b + 1 ∧ U.ho = 0 ∧ U.hp = 0 ∧ U.p0 = z32 ∧ U.p1 = h ∧ U.shelf.n = 49 := by
    rw [← hU]
    exact ⟨(congrArg (fun y => wrap64 (y + 1)) HT1.out.2.2.1).trans wb.out, HT1.out.2.2.2.2.1, HT1.out.2.2.2.2.2.1, HT1.out.2.2.2.2.2.2.2.1, rfl, by have := OU.out.f.sl.1; rw [← hU] at this; exact this.symm.trans (put_none b h (by omega)).2⟩
  have d8 : w26.cell? ⟨g24, 8, none⟩ = some (.int .i64 (b + 1)) := by rw [FU.out.cell 8 (by omega), ← hU1.1]; rfl
  have d112 : w26.cell? ⟨g24, 112, none⟩ = some (.slice U.shelf.ad 49 U.shelf.c) := by rw [FU.out.cell 112 (by omega), ← hU1.2.2.2.2.2]; rfl
  have aC : Hid (At w26 g24 13 (ctv 0 0) 2) := FU.out.atSt 13 0 0 (by omega) (by rw [St.v_ho, hU1.2.1]) (by rw [St.v_hp, hU1.2.2.1])
  have aP : Hid (At w26 g24 16 (pv z32 h) 64) := by have := FU.out.atPts; rw [hU1.2.2.2.1, hU1.2.2.2.2.1] at this; exact this
  have EP : Hid (∀ w : World, (Op.equalIn 10000 28 (.agg (tabv (pv z32 h) 64)) (.agg (tabv (pv z32 h) 64))).run Tryz.prog w = .ok true w) := fun w => by rw [eqPtD, eqH_refl, eqH_refl]; rfl
  clear hU hU1
  go_upto_region 20 with (first | (go_big_may; first | refine wpW_load_at 23 _ rfl (g24) (13) (by rfl) (by rfl) _ 2 _ (aC.out) Tryz.underlying23 rfl infoC ?_ | refine wpW_build (by rfl) 23 #[] rfl [] (by first | rfl | (simp [Act.eval, Act.put]; done)) _ builtCZ ?_ | refine wpW_neC (by rfl) (.tmp 164) (.tmp 165) rfl _ _ _ (by rfl) (by rfl) EC.out ?_ | refine wpW_load_at 28 _ rfl (g24) (16) (by rfl) (by rfl) _ 64 _ (aP.out) Tryz.underlying28 rfl infoPt ?_ | refine wpW_build (by rfl) 25 #[] rfl [] (by first | rfl | (simp [Act.eval, Act.put]; done)) _ builtHZ ?_ | refine wpW_load_at 25 _ rfl (g8) (0) (by rfl) (by rfl) _ 32 _ (F8.out.at_ 0 (by omega) (fun i hi => by rw [Nat.zero_add])) Tryz.underlying25 rfl info26 ?_ | refine wpW_build (by rfl) 28 #[(0, .tmp 171), (1, .tmp 172)] rfl [(0, .agg (tabv (bv z32) 32)), (1, .agg (tabv (bv h) 32))] (by first | rfl | (simp [Act.eval, Act.put]; done)) _ (builtPt z32 h) ?_ | refine wpW_nePt (by rfl) (.tmp 170) (.tmp 173) rfl _ _ _ (by rfl) (by rfl) EP.out ?_) | fail)
  clear d8 d112 aC aP EP EC FU OU
  have AP := hide (apply_os (s := T) (cmR (a + 1) h) [] rfl w26 OT.out (by simp) (by simp) (by simp) (Upds.nil _ _) (GG.out.below bw26 h2))
  have okx : apOk T [] [] [] (cmR (a + 1) h) [] = true := by rw [ok_cm _ _ (by omega)]; unfold cmOk; rw [HT1.out.1, HT1.out.2.2.2.1, wa.out]; simp [nexts]
  go_wp2_with (first | refine wpW_load_at 31 _ rfl (g14) (0) (by rfl) (by rfl) _ 115 _ (FT.out.at_ 0 (by omega) (fun i hi => by rw [Nat.zero_add])) Tryz.underlying31 rfl infoSt ?_ | refine wpW_load_at 25 _ rfl (g8) (0) (by rfl) (by rfl) _ 32 _ (F8.out.at_ 0 (by omega) (fun i hi => by rw [Nat.zero_add])) Tryz.underlying25 rfl info26 ?_ | refine wpW_build (by rfl) 38 #[(0, .const (.int .i64 3)), (3, .tmp 193), (5, .tmp 194)] rfl [(0, .int .i64 3), (3, .int .i64 (a + 1)), (5, .agg (tabv (bv h) 32))] (by first | rfl | (simp [Act.eval, Act.put]; done)) _ (builtCm3 (a + 1) h) ?_ | fail)
  refine AP.out.mono ?_
  rintro e w27 ⟨hbq, hA⟩
  obtain ⟨v1, v2, v3, rfl, hOS⟩ := hA.yes okx
  have bw27 : Below w.heap.size w w27 := bw26.trans (hbq.mono bw26.size)
  replace F8 := hide (F8.out.below hbq F8.out.lt)
  replace F13 := hide (F13.out.below hbq F13.out.lt)
  replace FT := hide (FT.out.below hbq FT.out.lt)
  replace OT := hide (OT.out.below hbq)
  clear hbq hA AP okx bw26
  obtain ⟨V, hV⟩ : ∃ y, setSl (newS T [] (cmR (a + 1) h) []) v1 v2 v3 = y := ⟨_, rfl⟩
  have hOS : OS w26.heap.size w27 (setSl (newS T [] (cmR (a + 1) h) []) v1 v2 v3) [] [] [] := by
    have e : newP T [] (cmR (a + 1) h) [] = [] := by unfold newP; split <;> simp
    rw [e] at hOS
    exact hOS
  rw [hV] at hOS ⊢
  obtain ⟨w28, w29, hWa, qa, hWb, qb, bq⟩ := newSt w27 V
  have Qa := hide qa
  go_upto_region 21 with (first | rw [hWb] | (go_big_may; first | refine wpList_storeSt rfl _ _ rfl rfl (w27.heap.size) (V) rfl rfl _ Qa.out ?_) | fail)
  try rw [hWb]
  have bw29 : Below w.heap.size w w29 := bw27.trans (bq.mono bw27.size)
  obtain ⟨g25, hgv⟩ : ∃ y, w27.heap.size = y := ⟨_, rfl⟩
  rw [hgv] at qb ⊢
  replace F8 := hide (F8.out.below bq F8.out.lt)
  replace F13 := hide (F13.out.below bq F13.out.lt)
  replace FT := hide (FT.out.below bq FT.out.lt)
  replace OT := hide (OT.out.below bq)
  have FV := hide qb
  have OV := hide (hOS.below bq)
  clear hOS
  clear hWa hWb Qa qa qb bq hgv bw27
  have AP := hide (apply_os (s := T) (cmR a h) [] rfl w29 OT.out (by simp) (by simp) (by simp) (Upds.nil _ _) (GG.out.below bw29 h2))
  have okx : apOk T [] [] [] (cmR a h) [] = false := by rw [ok_cm _ _ (by omega)]; unfold cmOk; rw [HT1.out.1, HT1.out.2.2.2.1, wa.out]; first | (simp; done) | (simp; omega)
  go_wp2_with (first | refine wpW_load_at 31 _ rfl (g14) (0) (by rfl) (by rfl) _ 115 _ (FT.out.at_ 0 (by omega) (fun i hi => by rw [Nat.zero_add])) Tryz.underlying31 rfl infoSt ?_ | refine wpW_load_at 25 _ rfl (g8) (0) (by rfl) (by rfl) _ 32 _ (F8.out.at_ 0 (by omega) (fun i hi => by rw [Nat.zero_add])) Tryz.underlying25 rfl info26 ?_ | refine wpW_build (by rfl) 38 #[(0, .const (.int .i64 3)), (3, .tmp 201), (5, .tmp 202)] rfl [(0, .int .i64 3), (3, .int .i64 (a)), (5, .agg (tabv (bv h) 32))] (by first | rfl | (simp [Act.eval, Act.put]; done)) _ (builtCm3 (a) h) ?_ | fail)
  refine AP.out.mono ?_
  rintro e w30 ⟨hbq, hA⟩
  obtain rfl := hA.no okx
  have bw30 : Below w.heap.size w w30 := bw29.trans (hbq.mono bw29.size)
  replace F8 := hide (F8.out.below hbq F8.out.lt)
  replace F13 := hide (F13.out.below hbq F13.out.lt)
  replace FT := hide (FT.out.below hbq FT.out.lt)
  replace OT := hide (OT.out.below hbq)
  replace FV := hide (FV.out.below hbq FV.out.lt)
  replace OV := hide (OV.out.below hbq)
  clear hbq hA AP okx bw29
  go_upto_region 22 with fail
  have AP := hide (apply_os (s := T) (cmR (a + 2) h) [] rfl w30 OT.out (by simp) (by simp) (by simp) (Upds.nil _ _) (GG.out.below bw30 h2))
  have okx : apOk T [] [] [] (cmR (a + 2) h) [] = false := by rw [ok_cm _ _ (by omega)]; unfold cmOk; rw [HT1.out.1, HT1.out.2.2.2.1, wa.out]; first | (simp; done) | (simp; omega)
  go_wp2_with (first | refine wpW_load_at 31 _ rfl (g14) (0) (by rfl) (by rfl) _ 115 _ (FT.out.at_ 0 (by omega) (fun i hi => by rw [Nat.zero_add])) Tryz.underlying31 rfl infoSt ?_ | refine wpW_load_at 25 _ rfl (g8) (0) (by rfl) (by rfl) _ 32 _ (F8.out.at_ 0 (by omega) (fun i hi => by rw [Nat.zero_add])) Tryz.underlying25 rfl info26 ?_ | refine wpW_build (by rfl) 38 #[(0, .const (.int .i64 3)), (3, .tmp 210), (5, .tmp 211)] rfl [(0, .int .i64 3), (3, .int .i64 (a + 2)), (5, .agg (tabv (bv h) 32))] (by first | rfl | (simp [Act.eval, Act.put]; done)) _ (builtCm3 (a + 2) h) ?_ | fail)
  refine AP.out.mono ?_
  rintro e w31 ⟨hbq, hA⟩
  obtain rfl := hA.no okx
  have bw31 : Below w.heap.size w w31 := bw30.trans (hbq.mono bw30.size)
  replace F8 := hide (F8.out.below hbq F8.out.lt)
  replace F13 := hide (F13.out.below hbq F13.out.lt)
  replace FT := hide (FT.out.below hbq FT.out.lt)
  replace OT := hide (OT.out.below hbq)
  replace FV := hide (FV.out.below hbq FV.out.lt)
  replace OV := hide (OV.out.below hbq)
  clear hbq hA AP okx bw30
  go_upto_region 23 with fail
  have hV1 : V.loc = a + 1 ∧ V.sig = h ∧ V.beh = false := by rw [← hV]; exact ⟨rfl, rfl, rfl⟩
  have d6 : w31.cell? ⟨g25, 6, none⟩ = some (.int .i64 (a + 1)) := by rw [FV.out.cell 6 (by omega), ← hV1.1]; rfl
  have d15 : w31.cell? ⟨g25, 15, none⟩ = some (.bool false) := by rw [FV.out.cell 15 (by omega), ← hV1.2.2]; rfl
  have aS : Hid (At w31 g25 80 (bv h) 32) := by have := FV.out.atSSig; rw [hV1.2.1] at this; exact this
  have EH : Hid (∀ w : World, (Op.equalIn 10000 25 (.agg (tabv (bv h) 32)) (.agg (tabv (bv h) 32))).run Tryz.prog w = .ok true w) := fun w => by rw [eqHD 9998, eqH_refl]
  clear hV hV1
  go_upto_region 25 with (first | (go_big_may; first | refine wpW_load_at 25 _ rfl (g25) (80) (by rfl) (by rfl) _ 32 _ (aS.out) Tryz.underlying25 rfl info26 ?_ | refine wpW_load_at 25 _ rfl (g8) (0) (by rfl) (by rfl) _ 32 _ (F8.out.at_ 0 (by omega) (fun i hi => by rw [Nat.zero_add])) Tryz.underlying25 rfl info26 ?_ | refine wpW_neH (by rfl) (.tmp 227) (.tmp 228) rfl _ _ _ (by rfl) (by rfl) EH.out ?_) | fail)
  clear d6 d15 aS EH FV OV FT OT
  have AP := hide (apply_any S [] [] [] (by rw [HS2.out.1]; rfl) (by rw [HS2.out.2.1]; rfl) (by rw [HS2.out.2.2]; rfl) (by simp) (by simp) (by simp) (clR a) [] rfl w31 (Upds.nil _ _) (Upds.nil _ _) (.inl rfl) (Upds.nil _ _) (GG.out.below bw31 h2))
  have okx : apOk S [] [] [] (clR a) [] = true := by rw [ok_cl _ (by omega), HS1.out.1]; simp
  go_wp2_with (first | refine wpW_load_at 31 _ rfl (g13) (0) (by rfl) (by rfl) _ 115 _ (F13.out.at_ 0 (by omega) (fun i hi => by rw [Nat.zero_add])) Tryz.underlying31 rfl infoSt ?_ | refine wpW_build (by rfl) 38 #[(0, .const (.int .i64 6)), (3, .tmp 245)] rfl [(0, .int .i64 6), (3, .int .i64 (a))] (by first | rfl | (simp [Act.eval, Act.put]; done)) _ (builtCl (a)) ?_ | fail)
  refine AP.out.mono ?_
  rintro e w32 ⟨hbq, hA⟩
  obtain ⟨y1, y2, y3, rfl, hOS⟩ := hA.yes okx
  have bw32 : Below w.heap.size w w32 := bw31.trans (hbq.mono bw31.size)
  replace F8 := hide (F8.out.below hbq F8.out.lt)
  replace F13 := hide (F13.out.below hbq F13.out.lt)
  clear hbq hA AP okx bw31
  obtain ⟨Y, hY⟩ : ∃ y, setSl (newS S [] (clR a) []) y1 y2 y3 = y := ⟨_, rfl⟩
  have hOS : OS w31.heap.size w32 (setSl (newS S [] (clR a) []) y1 y2 y3) [] [] [] := hOS
  rw [hY] at hOS ⊢
  obtain ⟨w33, w34, hWa, qa, hWb, qb, bq⟩ := newSt w32 Y
  have Qa := hide qa
  go_upto_region 26 with (first | rw [hWb] | (go_big_may; first | refine wpList_storeSt rfl _ _ rfl rfl (w32.heap.size) (Y) rfl rfl _ Qa.out ?_) | fail)
  try rw [hWb]
  have bw34 : Below w.heap.size w w34 := bw32.trans (bq.mono bw32.size)
  obtain ⟨g26, hgv⟩ : ∃ y, w32.heap.size = y := ⟨_, rfl⟩
  rw [hgv] at qb ⊢
  replace F8 := hide (F8.out.below bq F8.out.lt)
  replace F13 := hide (F13.out.below bq F13.out.lt)
  have FY := hide qb
  have OY := hide (hOS.below bq)
  clear hOS
  clear hWa hWb Qa qa qb bq hgv bw32
  have AP := hide (apply_any S [] [] [] (by rw [HS2.out.1]; rfl) (by rw [HS2.out.2.1]; rfl) (by rw [HS2.out.2.2]; rfl) (by simp) (by simp) (by simp) (clR (a + 1)) [] rfl w34 (Upds.nil _ _) (Upds.nil _ _) (.inl rfl) (Upds.nil _ _) (GG.out.below bw34 h2))
  have okx : apOk S [] [] [] (clR (a + 1)) [] = false := by rw [ok_cl _ (by omega), HS1.out.1]; exact beq_false_of_ne (by omega)
  go_wp2_with (first | refine wpW_load_at 31 _ rfl (g13) (0) (by rfl) (by rfl) _ 115 _ (F13.out.at_ 0 (by omega) (fun i hi => by rw [Nat.zero_add])) Tryz.underlying31 rfl infoSt ?_ | refine wpW_build (by rfl) 38 #[(0, .const (.int .i64 6)), (3, .tmp 253)] rfl [(0, .int .i64 6), (3, .int .i64 (a + 1))] (by first | rfl | (simp [Act.eval, Act.put]; done)) _ (builtCl (a + 1)) ?_ | fail)
  refine AP.out.mono ?_
  rintro e w35 ⟨hbq, hA⟩
  obtain rfl := hA.no okx
  have bw35 : Below w.heap.size w w35 := bw34.trans (hbq.mono bw34.size)
  replace F8 := hide (F8.out.below hbq F8.out.lt)
  replace F13 := hide (F13.out.below hbq F13.out.lt)
  replace FY := hide (FY.out.below hbq FY.out.lt)
  replace OY := hide (OY.out.below hbq)
  clear hbq hA AP okx bw34
  go_upto_region 27 with fail
  go_upto_region 28 with fail
  by_cases hkp : 0 < k
  · have kp : decide (0 < k) = true := decide_eq_true hkp
    have AP := hide (apply_any S [] [] [] (by rw [HS2.out.1]; rfl) (by rw [HS2.out.2.1]; rfl) (by rw [HS2.out.2.2]; rfl) (by simp) (by simp) (by simp) (flR k) [] rfl w35 (Upds.nil _ _) (Upds.nil _ _) (.inl rfl) (Upds.nil _ _) (GG.out.below bw35 h2))
    have okx : apOk S [] [] [] (flR k) [] = true := by rw [ok_fl]; exact (codB_iff k).2 (by omega)
    go_wp2_with (first | refine wpW_load_at 31 _ rfl (g13) (0) (by rfl) (by rfl) _ 115 _ (F13.out.at_ 0 (by omega) (fun i hi => by rw [Nat.zero_add])) Tryz.underlying31 rfl infoSt ?_ | refine wpW_build (by rfl) 38 #[(0, .const (.int .i64 5)), (8, .tmp 262)] rfl [(0, .int .i64 5), (8, .int .i64 k)] (by first | rfl | (simp [Act.eval, Act.put]; done)) _ (builtFl k) ?_ | fail)
    refine AP.out.mono ?_
    rintro e w36 ⟨hbq, hA⟩
    obtain ⟨x1, x2, x3, rfl, hOS⟩ := hA.yes okx
    have bw36 : Below w.heap.size w w36 := bw35.trans (hbq.mono bw35.size)
    replace F8 := hide (F8.out.below hbq F8.out.lt)
    replace F13 := hide (F13.out.below hbq F13.out.lt)
    replace FY := hide (FY.out.below hbq FY.out.lt)
    replace OY := hide (OY.out.below hbq)
    clear hbq hA AP okx bw35
    obtain ⟨X, hX⟩ : ∃ y, setSl (newS S [] (flR k) []) x1 x2 x3 = y := ⟨_, rfl⟩
    have hOS : OS w35.heap.size w36 (setSl (newS S [] (flR k) []) x1 x2 x3) [] [] [] := hOS
    rw [hX] at hOS ⊢
    obtain ⟨w37, w38, hWa, qa, hWb, qb, bq⟩ := newSt w36 X
    have Qa := hide qa
    go_upto_region 29 with (first | rw [hWb] | (go_big_may; first | refine wpList_storeSt rfl _ _ rfl rfl (w36.heap.size) (X) rfl rfl _ Qa.out ?_) | fail)
    try rw [hWb]
    have bw38 : Below w.heap.size w w38 := bw36.trans (bq.mono bw36.size)
    obtain ⟨g28, hgv⟩ : ∃ y, w36.heap.size = y := ⟨_, rfl⟩
    rw [hgv] at qb ⊢
    replace F8 := hide (F8.out.below bq F8.out.lt)
    replace F13 := hide (F13.out.below bq F13.out.lt)
    replace FY := hide (FY.out.below bq FY.out.lt)
    replace OY := hide (OY.out.below bq)
    have FX := hide qb
    have OX := hide (hOS.below bq)
    clear hOS
    clear hWa hWb Qa qa qb bq hgv bw36
    have d114 : w38.cell? ⟨g26, 114, none⟩ = some (.int .i64 a) := by rw [FY.out.cell 114 (by omega), ← hY]; rfl
    have hXf : X.fail = k := by rw [← hX]; show (if S.fail = 0 then k else S.fail) = k; rw [if_pos HS1.out.2.2.2.2.2]
    have d113 : w38.cell? ⟨g28, 113, none⟩ = some (.int .i64 k) := by rw [FX.out.cell 113 (by omega), ← hXf]; rfl
    have HXF := hide hXf
    clear hX hXf
    clear hY
    go_upto_region 31 with fail
    clear d114 d113 FY OY
    have AP := hide (apply_os (s := X) (flR 7) [] rfl w38 OX.out (by simp) (by simp) (by simp) (Upds.nil _ _) (GG.out.below bw38 h2))
    have okx : apOk X [] [] [] (flR 7) [] = true := by rw [ok_fl]; rfl
    go_wp2_with (first | refine wpW_load_at 31 _ rfl (g28) (0) (by rfl) (by rfl) _ 115 _ (FX.out.at_ 0 (by omega) (fun i hi => by rw [Nat.zero_add])) Tryz.underlying31 rfl infoSt ?_ | refine wpW_build (by rfl) 38 #[(0, .const (.int .i64 5)), (8, .const (.int .i64 7))] rfl [(0, .int .i64 5), (8, .int .i64 7)] (by first | rfl | (simp [Act.eval, Act.put]; done)) _ (builtFl 7) ?_ | fail)
    refine AP.out.mono ?_
    rintro e w39 ⟨hbq, hA⟩
    obtain ⟨m1, m2, m3, rfl, hOS⟩ := hA.yes okx
    have bw39 : Below w.heap.size w w39 := bw38.trans (hbq.mono bw38.size)
    replace F8 := hide (F8.out.below hbq F8.out.lt)
    replace F13 := hide (F13.out.below hbq F13.out.lt)
    replace FX := hide (FX.out.below hbq FX.out.lt)
    replace OX := hide (OX.out.below hbq)
    clear hbq hA AP okx bw38
    obtain ⟨M, hM⟩ : ∃ y, setSl (newS X [] (flR 7) []) m1 m2 m3 = y := ⟨_, rfl⟩
    have hOS : OS w38.heap.size w39 (setSl (newS X [] (flR 7) []) m1 m2 m3) [] [] [] := hOS
    rw [hM] at hOS ⊢
    obtain ⟨w40, w41, hWa, qa, hWb, qb, bq⟩ := newSt w39 M
    have Qa := hide qa
    go_upto_region 32 with (first | rw [hWb] | (go_big_may; first | refine wpList_storeSt rfl _ _ rfl rfl (w39.heap.size) (M) rfl rfl _ Qa.out ?_) | fail)
    try rw [hWb]
    have bw41 : Below w.heap.size w w41 := bw39.trans (bq.mono bw39.size)
    obtain ⟨g29, hgv⟩ : ∃ y, w39.heap.size = y := ⟨_, rfl⟩
    rw [hgv] at qb ⊢
    replace F8 := hide (F8.out.below bq F8.out.lt)
    replace F13 := hide (F13.out.below bq F13.out.lt)
    replace FX := hide (FX.out.below bq FX.out.lt)
    replace OX := hide (OX.out.below bq)
    have FM := hide qb
    have OM := hide (hOS.below bq)
    clear hOS
    clear hWa hWb Qa qa qb bq hgv bw39
    have d113 : w41.cell? ⟨g29, 113, none⟩ = some (.int .i64 k) := by
      rw [FM.out.cell 113 (by omega), ← hM]
      exact congrArg some (by show Value.int .i64 (if X.fail = 0 then 7 else X.fail) = _; rw [HXF.out, if_neg (by omega)])
    clear hM
    have kk : (k == k) = true := beq_self_eq_true k
    go_wp2
    go_ret
    exact ⟨rfl, bw41⟩
  · have kp : decide (0 < k) = false := decide_eq_false hkp
    have AP := hide (apply_any S [] [] [] (by rw [HS2.out.1]; rfl) (by rw [HS2.out.2.1]; rfl) (by rw [HS2.out.2.2]; rfl) (by simp) (by simp) (by simp) (flR k) [] rfl w35 (Upds.nil _ _) (Upds.nil _ _) (.inl rfl) (Upds.nil _ _) (GG.out.below bw35 h2))
    have okx : apOk S [] [] [] (flR k) [] = false := by rw [ok_fl]; unfold codB; rw [decide_eq_false (by omega)]; rfl
    go_wp2_with (first | refine wpW_load_at 31 _ rfl (g13) (0) (by rfl) (by rfl) _ 115 _ (F13.out.at_ 0 (by omega) (fun i hi => by rw [Nat.zero_add])) Tryz.underlying31 rfl infoSt ?_ | refine wpW_build (by rfl) 38 #[(0, .const (.int .i64 5)), (8, .tmp 262)] rfl [(0, .int .i64 5), (8, .int .i64 k)] (by first | rfl | (simp [Act.eval, Act.put]; done)) _ (builtFl k) ?_ | fail)
    refine AP.out.mono ?_
    rintro e w36 ⟨hbq, hA⟩
    obtain rfl := hA.no okx
    have bw36 : Below w.heap.size w w36 := bw35.trans (hbq.mono bw35.size)
    replace F8 := hide (F8.out.below hbq F8.out.lt)
    replace F13 := hide (F13.out.below hbq F13.out.lt)
    replace FY := hide (FY.out.below hbq FY.out.lt)
    replace OY := hide (OY.out.below hbq)
    clear hbq hA AP okx bw35
    obtain ⟨w37, w38, hWa, qa, hWb, qb, bq⟩ := newSt w36 St.zero
    have Qa := hide qa
    go_upto_region 29 with (first | rw [hWb] | (go_big_may; first | refine wpList_storeSt rfl _ _ rfl rfl (w36.heap.size) (St.zero) rfl rfl _ Qa.out ?_) | fail)
    try rw [hWb]
    have bw38 : Below w.heap.size w w38 := bw36.trans (bq.mono bw36.size)
    obtain ⟨g28, hgv⟩ : ∃ y, w36.heap.size = y := ⟨_, rfl⟩
    rw [hgv] at qb ⊢
    replace F8 := hide (F8.out.below bq F8.out.lt)
    replace F13 := hide (F13.out.below bq F13.out.lt)
    replace FY := hide (FY.out.below bq FY.out.lt)
    replace OY := hide (OY.out.below bq)
    have FX := hide qb
    clear hWa hWb Qa qa qb bq hgv bw36
    have d114 : w38.cell? ⟨g26, 114, none⟩ = some (.int .i64 a) := by rw [FY.out.cell 114 (by omega), ← hY]; rfl
    clear hY
    go_upto_region 31 with fail
    clear d114 FY OY
    have AP := hide (apply_any St.zero [] [] [] rfl rfl rfl (by simp) (by simp) (by simp) (flR 7) [] rfl w38 (Upds.nil _ _) (Upds.nil _ _) (.inl rfl) (Upds.nil _ _) (GG.out.below bw38 h2))
    have okx : apOk St.zero [] [] [] (flR 7) [] = true := by rw [ok_fl]; rfl
    go_wp2_with (first | refine wpW_load_at 31 _ rfl (g28) (0) (by rfl) (by rfl) _ 115 _ (FX.out.at_ 0 (by omega) (fun i hi => by rw [Nat.zero_add])) Tryz.underlying31 rfl infoSt ?_ | refine wpW_build (by rfl) 38 #[(0, .const (.int .i64 5)), (8, .const (.int .i64 7))] rfl [(0, .int .i64 5), (8, .int .i64 7)] (by first | rfl | (simp [Act.eval, Act.put]; done)) _ (builtFl 7) ?_ | fail)
    refine AP.out.mono ?_
    rintro e w39 ⟨hbq, hA⟩
    obtain ⟨m1, m2, m3, rfl, hOS⟩ := hA.yes okx
    have bw39 : Below w.heap.size w w39 := bw38.trans (hbq.mono bw38.size)
    replace F8 := hide (F8.out.below hbq F8.out.lt)
    replace F13 := hide (F13.out.below hbq F13.out.lt)
    replace FX := hide (FX.out.below hbq FX.out.lt)
    clear hbq hA AP okx bw38
    obtain ⟨M, hM⟩ : ∃ y, setSl (newS St.zero [] (flR 7) []) m1 m2 m3 = y := ⟨_, rfl⟩
    have hOS : OS w38.heap.size w39 (setSl (newS St.zero [] (flR 7) []) m1 m2 m3) [] [] [] := hOS
    rw [hM] at hOS ⊢
    obtain ⟨w40, w41, hWa, qa, hWb, qb, bq⟩ := newSt w39 M
    have Qa := hide qa
    go_upto_region 32 with (first | rw [hWb] | (go_big_may; first | refine wpList_storeSt rfl _ _ rfl rfl (w39.heap.size) (M) rfl rfl _ Qa.out ?_) | fail)
    try rw [hWb]
    have bw41 : Below w.heap.size w w41 := bw39.trans (bq.mono bw39.size)
    obtain ⟨g29, hgv⟩ : ∃ y, w39.heap.size = y := ⟨_, rfl⟩
    rw [hgv] at qb ⊢
    replace F8 := hide (F8.out.below bq F8.out.lt)
    replace F13 := hide (F13.out.below bq F13.out.lt)
    replace FX := hide (FX.out.below bq FX.out.lt)
    have FM := hide qb
    have OM := hide (hOS.below bq)
    clear hOS
    clear hWa hWb Qa qa qb bq hgv bw39
    have d113 : w41.cell? ⟨g29, 113, none⟩ = some (.int .i64 7) := by
      rw [FM.out.cell 113 (by omega), ← hM]
      rfl
    clear hM
    go_wp2
    go_ret
    exact ⟨rfl, bw41⟩
end Go.Proofs.YtlohfoggcdaeiaaGreat
