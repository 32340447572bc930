import Derived.Test.YtmmcoedgoekhgaaGreatDoorDSgText
import Derived.Test.YtmmcoedgoekhgaaGreatDoorDMsg
import Derived.Test.YtmmcoedgoekhgaaGreatDoorECode
import Derived.Deep.CutRange
import Derived.Test.YtmmcoedgoekhgaaGreatDoorPLaw
import Derived.Test.YtmmcoedgoekhgaaGreatDoorDClone
import Derived.Test.YtmmcoedgoekhgaaGreatDoorSCode
/-
  Again, Reveal of the code (printed by gen_d12.py).
-/
namespace Go.Proofs.YtmmcoedgoekhgaaGreatDoor
open Go.RowKit S
set_option linter.unusedVariables false
set_option linter.unusedSimpArgs false
theorem tx_size {F : FA} {oo nn : Int} {h : Nat → UInt8} {x y : Int} {l : List Pen} {b : ByteArray} {c : Int} (t : TX F oo nn h x y l b c) (hl : l.length ≤ 3910000000000) : b.size < 1152921504606840000 := by
  by_cases he : F.e = 0
  · have ta := t.yes he
    by_cases h1 : Arg oo nn
    · by_cases h2 : Snd x y l
      · rw [(ta.good h1 h2).1]
        have : (Cu.ofL (textB oo nn h x y l)).size = (textB oo nn h x y l).length := by simp [Cu.ofL, ByteArray.size]
        rw [this, textB_length]; omega
      · rw [(ta.form h1 h2).1]; decide
    · rw [(ta.arg h1).1]; decide
  · rw [(t.no he).1]; decide
def commitM (i : Int) (h : Nat → UInt8) : Msg := ⟨4, 0, 0, i, 0, h, z32, nilB⟩
def revokeM (i : Int) (p q : Nat → UInt8) : Msg := ⟨5, 0, 0, i, 0, q, p, nilB⟩
set_option maxRecDepth 100000 in
theorem builtCM (i : Int) (h : Nat → UInt8) : Tryz.prog.built 36 [(0, .int .i64 4), (3, .int .i64 i), (5, .agg (tabv (bv h) 32))] = some (tabv (commitM i h).v 70) := by kernel_rfl
set_option maxRecDepth 100000 in
theorem builtRM (i : Int) (p q : Nat → UInt8) : Tryz.prog.built 36 [(0, .int .i64 5), (3, .int .i64 i), (6, .agg (tabv (bv p) 32)), (5, .agg (tabv (bv q) 32))] = some (tabv (revokeM i p q).v 70) := by kernel_rfl
set_option maxRecDepth 100000 in
theorem builtMZ : Tryz.prog.built 36 [] = some (tabv Msg.zero.v 70) := by kernel_rfl
/-- What a region that ends in the store of its message holds all along. -/
structure SM (w : World) (bc bs br : Nat) (c : Cf) (s : St) (wx : World) : Prop where
  c : Has wx bc 26 c.v 164
  s : Has wx bs 32 s.v 115
  r : ∃ f, Has wx br 36 f 70
  b : Below w.heap.size w wx
theorem SM.step {w : World} {bc bs br : Nat} {c : Cf} {s : St} {wx wy : World} (h : SM w bc bs br c s wx) (hb : Below wx.heap.size wx wy) : SM w bc bs br c s wy :=
  ⟨h.c.below hb h.c.lt, h.s.below hb h.s.lt, h.r.imp fun _ k => k.below hb k.lt, h.b.trans (hb.mono h.b.size)⟩
theorem SM.store {w : World} {bc bs br : Nat} {c : Cf} {s : St} {wx : World} (h : SM w bc bs br c s wx) (M : Msg) (h1 : bc ≠ br) (h2 : bs ≠ br) (h3 : w.heap.size ≤ br) : SM w bc bs br c s (wx.setRow br (tabv M.v 70)) ∧ Has (wx.setRow br (tabv M.v 70)) br 36 M.v 70 := by
  obtain ⟨f, hf⟩ := h.r
  exact ⟨⟨h.c.row_other _ _ h1, h.s.row_other _ _ h2, ⟨_, hf.row _ M.v rfl⟩, below_setRow h.b h3 _⟩, hf.row _ M.v rfl⟩
set_option maxRecDepth 100000 in
set_option maxHeartbeats 40000000 in
theorem again_any (num : Num) (c : Cf) (s : St) (mine others : List Upd) (hn1 : mine.length = s.ours.n) (hn2 : others.length = s.peers.n) (z1 : s.ours.n ≤ 1955000000000) (z2 : s.peers.n ≤ 1955000000000) (k1 : s.ours.n ≤ s.ours.c) (k2 : s.peers.n ≤ s.peers.c) (w : World) (hG : Glob num w) (hS1 : Upds w s.ours.ad mine) (hS2 : Upds w s.peers.ad others) : Calls Tryz.prog 18 #[.agg (tabv c.v 164), .agg (tabv s.v 115)] w fun e w' => ∃ b k, e = .returned (.agg (tabv (commitM s.rem (mac c.key b.data.toList)).v 70)) ∧ TX (sgF s mine others) (IntKind.i64.wrap (1 - s.side)) s.rem (bif s.rem != s.ack then s.p1 else s.p0) (sgF s mine others).y (sgF s mine others).x (turnP (sgF s mine others).l) b k ∧ Below w.heap.size w w' := by
  obtain ⟨w1, hW1⟩ : ∃ wX, w.alloc (.cells (tabv c.v 164) 26) = wX := ⟨_, rfl⟩
  have rc : Has w1 w.heap.size 26 c.v 164 := by rw [← hW1]; exact Has.new w 26 c.v 164 _ rfl
  have bb : Below w.heap.size w w1 := by rw [← hW1]; exact (Below.refl w.heap.size w).alloc (Nat.le_refl _) _
  have gb : Below w.heap.size w w1 := bb
  clear bb
  obtain ⟨w2, hW2⟩ : ∃ wX, w1.alloc (.cells (tabv s.v 115) 32) = wX := ⟨_, rfl⟩
  have rs : Has w2 w1.heap.size 32 s.v 115 := by rw [← hW2]; exact Has.new w1 32 s.v 115 _ rfl
  have bb : Below w1.heap.size w1 w2 := by rw [← hW2]; exact (Below.refl w1.heap.size w1).alloc (Nat.le_refl _) _
  have rc := rc.below bb rc.lt
  have gb : Below w.heap.size w w2 := gb.trans (bb.mono gb.size)
  clear bb
  obtain ⟨w3, hW3⟩ : ∃ wX, w2.alloc (.cells (tabv Msg.zero.v 70) 36) = wX := ⟨_, rfl⟩
  have rr : Has w3 w2.heap.size 36 Msg.zero.v 70 := by rw [← hW3]; exact Has.new w2 36 Msg.zero.v 70 _ rfl
  have bb : Below w2.heap.size w2 w3 := by rw [← hW3]; exact (Below.refl w2.heap.size w2).alloc (Nat.le_refl _) _
  have rc := rc.below bb rc.lt
  have rs := rs.below bb rs.lt
  have gb : Below w.heap.size w w3 := gb.trans (bb.mono gb.size)
  clear bb
  have Rb_c := hide rc
  have Rb_s := hide rs
  have Rb_r := hide rr
  have GB := hide gb
  clear gb rc rs rr
  have LB : w.heap.size ≤ w2.heap.size := by have h1 : w.heap.size < w1.heap.size := (by rw [← hW1, size_alloc]; omega); have h2 : w1.heap.size < w2.heap.size := (by rw [← hW2, size_alloc]; omega); omega
  rw [← zero70] at hW3
  have HLEN := hide (show (turnP (sgF s mine others).l).length ≤ 3910000000000 by rw [turn_len]; exact fold_len s.bo s.bp mine others s.so s.sp (by omega) (by omega))
  have HT := hide (fun wx (hb : Below w.heap.size w wx) => signedText_any s mine others hn1 hn2 z1 z2 k1 k2 wx (hS1.below hb) (hS2.below hb))
  have HG := hide (fun wx (hb : Below w.heap.size w wx) => hG.up hb)
  generalize sgF s mine others = F at HT HLEN ⊢
  clear hn1 hn2 z1 z2 k1 k2 hS1 hS2 hG
  generalize (bif s.rem != s.ack then s.p1 else s.p0) = PT at HT ⊢
  generalize IntKind.i64.wrap (1 - s.side) = OO at HT ⊢
  have hs7 : ∀ wx, Has wx (w1.heap.size) 32 s.v 115 → wx.cell? ⟨w1.heap.size, 7, none⟩ = some (.int .i64 s.rem) := fun wx h => h.cell 7 (by omega)
  generalize s.rem = re at hs7 HT ⊢
  replace hs7 := hide hs7
  have hk : ∀ wx, Has wx (w.heap.size) 26 c.v 164 → At wx w.heap.size 35 (bv c.key) 32 := fun wx h => h.at_ 35 (by omega) (fun i hi => c.v_key i hi)
  generalize c.key = key at hk ⊢
  replace hk := hide hk
  go_enter Tryz.func18, Tryz.ntmps18
  go_wp2_with (first | refine wpW_load_at 32 _ rfl (w1.heap.size) (0) (by rfl) (by rfl) _ 115 _ (Rb_s.out.at_ 0 (by omega) (fun i hi => by rw [Nat.zero_add])) Tryz.underlying32 rfl infoSt ?_ | fail)
  refine (HT.out _ GB.out).mono ?_
  rintro e y1 ⟨tb, tc, rfl, hTX, hb⟩
  have TT := hide hTX
  clear hTX
  have Ry1_c := hide (Rb_c.out.below hb Rb_c.out.lt)
  have Ry1_s := hide (Rb_s.out.below hb Rb_s.out.lt)
  have Ry1_r := hide (Rb_r.out.below hb Rb_r.out.lt)
  have Gy1 := hide (GB.out.trans (hb.mono GB.out.size))
  clear hb
  go_upto_region 2 with fail
  have N1 : w.heap.size ≠ w2.heap.size := by have h1 : w.heap.size < w1.heap.size := (by rw [← hW1, size_alloc]; omega); have h2 : w1.heap.size < w2.heap.size := (by rw [← hW2, size_alloc]; omega); omega
  have N2 : w1.heap.size ≠ w2.heap.size := by have h2 : w1.heap.size < w2.heap.size := (by rw [← hW2, size_alloc]; omega); omega
  refine wp_region_noPanic ?_
  refine wp_region_held_drew (S := SM w w.heap.size w1.heap.size w2.heap.size c s) (by kernel_rfl) (⟨Ry1_c.out, Ry1_s.out, ⟨_, Ry1_r.out⟩, belowD Gy1.out 1⟩) (fun hHeld => ?_)
  generalize hwd : World.drew y1 = wd at hHeld ⊢
  refine Cu.takeH 0 (some 12) (.pointer (some ⟨w1.heap.size, 7, none⟩)) rfl rfl (by kernel_rfl) (by kernel_rfl) (by kernel_rfl) (fun _ _ _ h => h) (by rfl) (fun w_ hw => by first | rfl | (go_simp; done) | (go_simp; rfl) | (go_simp; omega)) hHeld ?_
  simp only [Act.put, List.setIfInBounds_toArray, List.set_cons_zero, List.set_cons_succ]
  refine Cu.takeH 1 (some 13) (.int .i64 re) rfl rfl (by kernel_rfl) (by kernel_rfl) (by kernel_rfl) (fun _ _ _ h => h) (by rfl) (fun w_ hw => by have c : World.cell? _ ⟨w1.heap.size, 7, none⟩ = some (.int .i64 re) := hs7.out _ hw.s; first | rfl | (go_simp; done) | (go_simp; rfl)) hHeld ?_
  simp only [Act.put, List.setIfInBounds_toArray, List.set_cons_zero, List.set_cons_succ]
  refine Cu.takeH 2 (some 14) (.pointer (some ⟨w.heap.size, 35, none⟩)) rfl rfl (by kernel_rfl) (by kernel_rfl) (by kernel_rfl) (fun _ _ _ h => h) (by rfl) (fun w_ hw => by first | rfl | (go_simp; done) | (go_simp; rfl) | (go_simp; omega)) hHeld ?_
  simp only [Act.put, List.setIfInBounds_toArray, List.set_cons_zero, List.set_cons_succ]
  refine Cu.takeH 3 (some 15) (.agg (tabv (bv key) 32)) rfl rfl (by kernel_rfl) (by kernel_rfl) (by kernel_rfl) (fun _ _ _ h => h) (by rfl) (fun w_ hw => run_load_at w_ 23 _ rfl (w.heap.size) 35 (by rfl) _ 32 _ (hk.out _ hw.c) Tryz.underlying23 rfl info26) hHeld ?_
  simp only [Act.put, List.setIfInBounds_toArray, List.set_cons_zero, List.set_cons_succ]
  refine Cu.takeH 4 (some 16) (.string tb) rfl rfl (by kernel_rfl) (by kernel_rfl) (by kernel_rfl) (fun _ _ _ h => h) (by rfl) (fun w_ hw => by first | rfl | (go_simp; done) | (go_simp; rfl) | (go_simp; omega)) hHeld ?_
  simp only [Act.put, List.setIfInBounds_toArray, List.set_cons_zero, List.set_cons_succ]
  refine wpAnyH_ready (rs := [5]) (by kernel_rfl) (by simp) (AllReadyH.cons rfl (fun K hK => ?_) AllReadyH.nil)
  rw [if_pos (by rfl)]
  go_simp
  refine (sign_any num key tb _ (HG.out _ hHeld.b) (tx_size TT.out HLEN.out)).mono ?_
  rintro e ys ⟨rfl, hbq⟩
  try go_wp2_with fail
  refine hK.out _ _ (hHeld.step hbq) (fun hH => ?_)
  clear hK K hHeld
  have hHeld := hH
  clear hH
  refine Cu.takeH 6 (some 18) (.agg (tabv (commitM re (mac key tb.data.toList)).v 70)) rfl rfl (by kernel_rfl) (by kernel_rfl) (by kernel_rfl) (fun _ _ _ h => h) (by rfl) (fun w_ hw => run_buildG w_ 36 _ rfl [(0, .int .i64 4), (3, .int .i64 re), (5, .agg (tabv (bv (mac key tb.data.toList)) 32))] (by first | rfl | (simp [Act.eval, Act.put]; done)) _ (builtCM _ _)) hHeld ?_
  simp only [Act.put, List.setIfInBounds_toArray, List.set_cons_zero, List.set_cons_succ]
  refine wpAnyH_ready (rs := [7]) (by kernel_rfl) (by simp) (AllReadyH.cons rfl (fun K hK => ?_) AllReadyH.nil)
  rw [if_pos (by rfl)]
  obtain ⟨f9, hf9⟩ := hHeld.r
  refine wp_store_part 36 _ _ rfl rfl w2.heap.size 0 (commitM re (mac key tb.data.toList)).v 70 rfl rfl 36 _ 70 hf9 (by omega) infoM (fun i _ => oneM _ i) (commitM re (mac key tb.data.toList)).v (fun i hi => by unfold splice; rw [if_pos (by omega), Nat.sub_zero]) ?_
  obtain ⟨hS9, hM9⟩ := hHeld.store (commitM re (mac key tb.data.toList)) N1 N2 LB
  refine hK.out _ _ hS9 (fun hH => ?_)
  clear hK hHeld hH hf9
  generalize hwz : World.setRow _ w2.heap.size (tabv (commitM re (mac key tb.data.toList)).v 70) = wz at hS9 hM9 ⊢
  have RF := hide hM9
  have BF := hide hS9.b
  clear hwz hM9 hS9 hwd
  refine ⟨by kernel_rfl, ?_⟩
  refine NoPanic.normal ?_
  go_wp2
  (try simp only [Exit.inBlock, Exit.then])
  exact bodyPost_ret (results_cell_row rfl _ _ w2.heap.size 36 _ (0, 0) _ rfl RF.out Tryz.underlying36 rfl (by rw [tabv_size]; exact infoM)) rfl ⟨tb, tc, rfl, TT.out, BF.out⟩
end Go.Proofs.YtmmcoedgoekhgaaGreatDoor
/-
  Revoked of the code (printed by gen_d14.py).
-/
namespace Go.Proofs.YtmmcoedgoekhgaaGreatDoor
open Go.RowKit S
set_option linter.unusedVariables false
set_option linter.unusedSimpArgs false
end Go.Proofs.YtmmcoedgoekhgaaGreatDoor
/-
  resume: lacksCommitment, proven, refusal (printed by gen_e1.py).
-/
namespace Go.Proofs.YtmmcoedgoekhgaaGreatDoor
open Go.RowKit S
set_option linter.unusedVariables false
set_option linter.unusedSimpArgs false
def lackB (s : St) (m : Msg) : Bool := (m.idx == s.rem) && (s.rem == wrap64 (s.ack + 1))
def provB (c : Cf) (m : Msg) : Bool := bif decide (m.nxt < 0) then true else bif (m.nxt == 0) then eqH m.sec z32 else bif decide (m.nxt > 281474976710655) then false else (((secretA c.seed (m.nxt - 1)).2 == 0) && eqH m.sec (secretA c.seed (m.nxt - 1)).1)
def refA (c : Cf) (s : St) (m : Msg) : Int := bif (m.kind != 6) then 160 else bif !(provB c m) then 100 else bif decide (m.nxt > s.loc) then 180 else bif (decide (m.nxt < 0) || ((m.nxt != s.loc) && (m.nxt != wrap64 (s.loc - 1)))) then 90 else bif ((m.idx != wrap64 (s.rem + 1)) && !(lackB s m)) then 90 else 0
theorem built32z : Tryz.prog.built 23 [] = some (tabv (bv z32) 32) := by kernel_rfl
set_option maxRecDepth 100000 in
set_option maxHeartbeats 40000000 in
theorem lacks_any (s : St) (m : Msg) (w : World) : Calls Tryz.prog 85 #[.agg (tabv s.v 115), .agg (tabv m.v 70)] w fun e w' => e = .returned (.bool (lackB s m)) ∧ Below w.heap.size w w' := by
  obtain ⟨w1, hW1⟩ : ∃ wX, w.alloc (.cells (tabv s.v 115) 32) = wX := ⟨_, rfl⟩
  have rs : Has w1 w.heap.size 32 s.v 115 := by rw [← hW1]; exact Has.new w 32 s.v 115 _ rfl
  have bb : Below w.heap.size w w1 := by rw [← hW1]; exact (Below.refl w.heap.size w).alloc (Nat.le_refl _) _
  have gb : Below w.heap.size w w1 := bb
  clear bb
  obtain ⟨w2, hW2⟩ : ∃ wX, w1.alloc (.cells (tabv m.v 70) 36) = wX := ⟨_, rfl⟩
  have rm : Has w2 w1.heap.size 36 m.v 70 := by rw [← hW2]; exact Has.new w1 36 m.v 70 _ rfl
  have bb : Below w1.heap.size w1 w2 := by rw [← hW2]; exact (Below.refl w1.heap.size w1).alloc (Nat.le_refl _) _
  have rs := rs.below bb rs.lt
  have gb : Below w.heap.size w w2 := gb.trans (bb.mono gb.size)
  clear bb
  have Rb_s := hide rs
  have Rb_m := hide rm
  have GB := hide gb
  clear gb rs rm
  unfold lackB
  have hs7 : ∀ wx, Has wx (w.heap.size) 32 s.v 115 → wx.cell? ⟨w.heap.size, 7, none⟩ = some (.int .i64 s.rem) := fun wx h => h.cell 7 (by omega)
  have hs8 : ∀ wx, Has wx (w.heap.size) 32 s.v 115 → wx.cell? ⟨w.heap.size, 8, none⟩ = some (.int .i64 s.ack) := fun wx h => h.cell 8 (by omega)
  generalize s.rem = re at hs7 ⊢
  generalize s.ack = ak at hs8 ⊢
  replace hs7 := hide hs7
  replace hs8 := hide hs8
  have hm3 : ∀ wx, Has wx (w1.heap.size) 36 m.v 70 → wx.cell? ⟨w1.heap.size, 3, none⟩ = some (.int .i64 m.idx) := fun wx h => h.cell 3 (by omega)
  generalize m.idx = ix at hm3 ⊢
  replace hm3 := hide hm3
  go_enter Tryz.func85, Tryz.ntmps85
  have z0_s7 : w2.cell? ⟨w.heap.size, 7, none⟩ = some (.int .i64 re) := hs7.out _ Rb_s.out
  have z0_s8 : w2.cell? ⟨w.heap.size, 8, none⟩ = some (.int .i64 ak) := hs8.out _ Rb_s.out
  have z0_m3 : w2.cell? ⟨w1.heap.size, 3, none⟩ = some (.int .i64 ix) := hm3.out _ Rb_m.out
  cases q : (ix == re) with
  | true => go_wp2; go_ret; exact ⟨by first | rfl | (simp [*]; done), GB.out⟩
  | false => go_wp2; go_ret; exact ⟨by first | rfl | (simp [*]; done), GB.out⟩
set_option maxRecDepth 100000 in
set_option maxHeartbeats 40000000 in
theorem proven_any (c : Cf) (m : Msg) (hx : -9223372036854775808 ≤ m.nxt ∧ m.nxt ≤ 9223372036854775807) (w : World) (hG : Glob num w) : Calls Tryz.prog 135 #[.agg (tabv c.v 164), .agg (tabv m.v 70)] w fun e w' => e = .returned (.bool (provB c m)) ∧ Below w.heap.size w w' := by
  obtain ⟨w1, hW1⟩ : ∃ wX, w.alloc (.cells (tabv c.v 164) 26) = wX := ⟨_, rfl⟩
  have rc : Has w1 w.heap.size 26 c.v 164 := by rw [← hW1]; exact Has.new w 26 c.v 164 _ rfl
  have bb : Below w.heap.size w w1 := by rw [← hW1]; exact (Below.refl w.heap.size w).alloc (Nat.le_refl _) _
  have gb : Below w.heap.size w w1 := bb
  clear bb
  obtain ⟨w2, hW2⟩ : ∃ wX, w1.alloc (.cells (tabv m.v 70) 36) = wX := ⟨_, rfl⟩
  have rm : Has w2 w1.heap.size 36 m.v 70 := by rw [← hW2]; exact Has.new w1 36 m.v 70 _ rfl
  have bb : Below w1.heap.size w1 w2 := by rw [← hW2]; exact (Below.refl w1.heap.size w1).alloc (Nat.le_refl _) _
  have rc := rc.below bb rc.lt
  have gb : Below w.heap.size w w2 := gb.trans (bb.mono gb.size)
  clear bb
  have Rb_c := hide rc
  have Rb_m := hide rm
  have GB := hide gb
  clear gb rc rm
  have HS := hide (fun wx (hb : Below w.heap.size w wx) => sSecret_any num c.seed (m.nxt - 1) wx (hG.up hb))
  have hsd : ∀ wx, Has wx (w.heap.size) 26 c.v 164 → At wx w.heap.size 3 (bv c.seed) 32 := fun wx h => h.at_ 3 (by omega) (fun i hi => c.v_seed i hi)
  replace hsd := hide hsd
  have hsec : ∀ wx, Has wx (w1.heap.size) 36 m.v 70 → At wx w1.heap.size 37 (bv m.sec) 32 := fun wx h => h.at_ 37 (by omega) (fun i hi => m.v_sec i hi)
  unfold provB
  generalize secretA c.seed (m.nxt - 1) = SA at HS ⊢
  obtain ⟨A1, A2⟩ := SA
  generalize m.sec = sec at hsec ⊢
  replace hsec := hide hsec
  have hm4 : ∀ wx, Has wx (w1.heap.size) 36 m.v 70 → wx.cell? ⟨w1.heap.size, 4, none⟩ = some (.int .i64 m.nxt) := fun wx h => h.cell 4 (by omega)
  generalize m.nxt = nx at hm4 HS hx ⊢
  replace hm4 := hide hm4
  clear hG
  go_enter Tryz.func135, Tryz.ntmps135
  have z0_m4 : w2.cell? ⟨w1.heap.size, 4, none⟩ = some (.int .i64 nx) := hm4.out _ Rb_m.out
  cases q1 : decide (nx < 0) with
  | true => go_wp2; go_ret; exact ⟨by first | rfl | (simp only [*]; rfl) | (simp [*]; done), GB.out⟩
  | false =>
    cases q2 : (nx == 0) with
    | true =>
      go_wp2_with (first | refine wpW_load_at 23 _ rfl (w1.heap.size) (37) (by rfl) (by rfl) _ 32 _ (hsec.out _ Rb_m.out) Tryz.underlying23 rfl info26 ?_ | refine wpW_build (by rfl) 23 #[] rfl [] (by first | rfl | (simp [Act.eval, Act.put]; done)) _ built32z ?_ | refine wpW_eqH rfl _ _ rfl _ _ (eqH sec z32) rfl rfl (fun wq => eqHD 9998 wq sec z32) ?_ | fail)
      go_ret
      exact ⟨by first | rfl | (simp only [*]; rfl) | (simp [*]; done), GB.out⟩
    | false =>
      cases q3 : decide (nx > 281474976710655) with
      | true => go_wp2; go_ret; exact ⟨by first | rfl | (simp only [*]; rfl) | (simp [*]; done), GB.out⟩
      | false =>
        have h1 : ¬ nx < 0 := by simpa using q1
        have h3 : ¬ nx > 281474976710655 := by simpa using q3
        go_wp2_with (first | refine wpW_load_at 23 _ rfl (w.heap.size) (3) (by rfl) (by rfl) _ 32 _ (hsd.out _ Rb_c.out) Tryz.underlying23 rfl info26 ?_ | fail)
        refine (HS.out _ GB.out).mono ?_
        rintro e y1 ⟨rfl, hb⟩
        clear z0_m4
        have Ry1_c := hide (Rb_c.out.below hb Rb_c.out.lt)
        have Ry1_m := hide (Rb_m.out.below hb Rb_m.out.lt)
        have Gy1 := hide (GB.out.trans (hb.mono GB.out.size))
        clear hb
        obtain ⟨U1, U2, hU1, rU1, hU2, rU2, hb⟩ := newHs y1 A1
        have RU1 := hide rU1
        have RU2 := hide rU2
        clear rU1 rU2
        rw [zero32] at hU1
        have RU2_c := hide (Ry1_c.out.below hb Ry1_c.out.lt)
        have RU2_m := hide (Ry1_m.out.below hb Ry1_m.out.lt)
        have GU2 := hide (Gy1.out.trans (hb.mono Gy1.out.size))
        clear hb
        cases q4 : (A2 == 0) with
        | false =>
          go_wp2_with (first | (rw [hU1]) | (refine wpList_storeHs rfl _ _ rfl rfl y1.heap.size A1 rfl rfl _ RU1.out ?_; rw [hU2]) | fail)
          go_ret
          exact ⟨by first | rfl | (simp only [*]; rfl) | (simp [*]; done), GU2.out⟩
        | true =>
          go_wp2_with (first | (rw [hU1]) | (refine wpList_storeHs rfl _ _ rfl rfl y1.heap.size A1 rfl rfl _ RU1.out ?_; rw [hU2]) | refine wpW_load_at 23 _ rfl (w1.heap.size) (37) (by rfl) (by rfl) _ 32 _ (hsec.out _ RU2_m.out) Tryz.underlying23 rfl info26 ?_ | refine wpW_load_at 23 _ rfl (y1.heap.size) (0) (by rfl) (by rfl) _ 32 _ (RU2.out.at_ 0 (by omega) (fun i hi => by rw [Nat.zero_add])) Tryz.underlying23 rfl info26 ?_ | refine wpW_eqH rfl _ _ rfl _ _ (eqH sec A1) rfl rfl (fun wq => eqHD 9998 wq sec A1) ?_ | fail)
          go_ret
          exact ⟨by first | rfl | (simp only [*]; rfl) | (simp [*]; done), GU2.out⟩
set_option maxRecDepth 100000 in
set_option maxHeartbeats 40000000 in
theorem refusal_any (c : Cf) (s : St) (m : Msg) (hx : -9223372036854775808 ≤ m.nxt ∧ m.nxt ≤ 9223372036854775807) (w : World) (hG : Glob num w) : Calls Tryz.prog 79 #[.agg (tabv c.v 164), .agg (tabv s.v 115), .agg (tabv m.v 70)] w fun e w' => e = .returned (.int .i64 (refA c s m)) ∧ Below w.heap.size w w' := by
  obtain ⟨w1, hW1⟩ : ∃ wX, w.alloc (.cells (tabv c.v 164) 26) = wX := ⟨_, rfl⟩
  have rc : Has w1 w.heap.size 26 c.v 164 := by rw [← hW1]; exact Has.new w 26 c.v 164 _ rfl
  have bb : Below w.heap.size w w1 := by rw [← hW1]; exact (Below.refl w.heap.size w).alloc (Nat.le_refl _) _
  have gb : Below w.heap.size w w1 := bb
  clear bb
  obtain ⟨w2, hW2⟩ : ∃ wX, w1.alloc (.cells (tabv s.v 115) 32) = wX := ⟨_, rfl⟩
  have rs : Has w2 w1.heap.size 32 s.v 115 := by rw [← hW2]; exact Has.new w1 32 s.v 115 _ rfl
  have bb : Below w1.heap.size w1 w2 := by rw [← hW2]; exact (Below.refl w1.heap.size w1).alloc (Nat.le_refl _) _
  have rc := rc.below bb rc.lt
  have gb : Below w.heap.size w w2 := gb.trans (bb.mono gb.size)
  clear bb
  obtain ⟨w3, hW3⟩ : ∃ wX, w2.alloc (.cells (tabv m.v 70) 36) = wX := ⟨_, rfl⟩
  have rm : Has w3 w2.heap.size 36 m.v 70 := by rw [← hW3]; exact Has.new w2 36 m.v 70 _ rfl
  have bb : Below w2.heap.size w2 w3 := by rw [← hW3]; exact (Below.refl w2.heap.size w2).alloc (Nat.le_refl _) _
  have rc := rc.below bb rc.lt
  have rs := rs.below bb rs.lt
  have gb : Below w.heap.size w w3 := gb.trans (bb.mono gb.size)
  clear bb
  have Rb_c := hide rc
  have Rb_s := hide rs
  have Rb_m := hide rm
  have GB := hide gb
  clear gb rc rs rm
  have HP := hide (fun wx (hb : Below w.heap.size w wx) => proven_any c m hx wx (hG.up hb))
  have HL := hide (fun wx : World => lacks_any s m wx)
  unfold refA
  generalize provB c m = PB at HP ⊢
  generalize lackB s m = LB at HL ⊢
  have hm0 : ∀ wx, Has wx (w2.heap.size) 36 m.v 70 → wx.cell? ⟨w2.heap.size, 0, none⟩ = some (.int .i64 m.kind) := fun wx h => h.cell 0 (by omega)
  have hm3 : ∀ wx, Has wx (w2.heap.size) 36 m.v 70 → wx.cell? ⟨w2.heap.size, 3, none⟩ = some (.int .i64 m.idx) := fun wx h => h.cell 3 (by omega)
  generalize m.kind = kd at hm0 ⊢
  generalize m.idx = ix at hm3 ⊢
  replace hm0 := hide hm0
  replace hm3 := hide hm3
  have hm4 : ∀ wx, Has wx (w2.heap.size) 36 m.v 70 → wx.cell? ⟨w2.heap.size, 4, none⟩ = some (.int .i64 m.nxt) := fun wx h => h.cell 4 (by omega)
  generalize m.nxt = nx at hm4 hx ⊢
  replace hm4 := hide hm4
  have hs6 : ∀ wx, Has wx (w1.heap.size) 32 s.v 115 → wx.cell? ⟨w1.heap.size, 6, none⟩ = some (.int .i64 s.loc) := fun wx h => h.cell 6 (by omega)
  have hs7 : ∀ wx, Has wx (w1.heap.size) 32 s.v 115 → wx.cell? ⟨w1.heap.size, 7, none⟩ = some (.int .i64 s.rem) := fun wx h => h.cell 7 (by omega)
  generalize s.loc = lo at hs6 ⊢
  generalize s.rem = re at hs7 ⊢
  replace hs6 := hide hs6
  replace hs7 := hide hs7
  clear hG
  go_enter Tryz.func79, Tryz.ntmps79
  have z0_m0 : w3.cell? ⟨w2.heap.size, 0, none⟩ = some (.int .i64 kd) := hm0.out _ Rb_m.out
  cases q1 : (kd != 6) with
  | true => go_wp2; go_ret; exact ⟨by first | rfl | (simp only [*]; rfl) | (simp [*]; done), GB.out⟩
  | false =>
    go_wp2_with (first | refine wpW_load_at 26 _ rfl (w.heap.size) (0) (by rfl) (by rfl) _ 164 _ (Rb_c.out.at_ 0 (by omega) (fun i hi => by rw [Nat.zero_add])) Tryz.underlying26 rfl infoCf ?_ | refine wpW_load_at 36 _ rfl (w2.heap.size) (0) (by rfl) (by rfl) _ 70 _ (Rb_m.out.at_ 0 (by omega) (fun i hi => by rw [Nat.zero_add])) Tryz.underlying36 rfl infoM ?_ | fail)
    refine (HP.out _ GB.out).mono ?_
    rintro e y1 ⟨rfl, hb⟩
    clear z0_m0
    have Ry1_c := hide (Rb_c.out.below hb Rb_c.out.lt)
    have Ry1_s := hide (Rb_s.out.below hb Rb_s.out.lt)
    have Ry1_m := hide (Rb_m.out.below hb Rb_m.out.lt)
    have Gy1 := hide (GB.out.trans (hb.mono GB.out.size))
    clear hb
    cases PB with
    | false => go_wp2; go_ret; exact ⟨by first | rfl | (simp only [*]; rfl) | (simp [*]; done), Gy1.out⟩
    | true =>
      have z1_m4 : y1.cell? ⟨w2.heap.size, 4, none⟩ = some (.int .i64 nx) := hm4.out _ Ry1_m.out
      have z1_s6 : y1.cell? ⟨w1.heap.size, 6, none⟩ = some (.int .i64 lo) := hs6.out _ Ry1_s.out
      cases q2 : decide (nx > lo) with
      | true => go_wp2; go_ret; exact ⟨by first | rfl | (simp only [*]; rfl) | (simp [*]; done), Gy1.out⟩
      | false =>
        cases q3 : decide (nx < 0) with
        | true => go_wp2; go_ret; exact ⟨by first | rfl | (simp only [*]; rfl) | (simp [*]; done), Gy1.out⟩
        | false =>
          cases q4 : (nx != lo) with
          | true =>
            cases q5 : (nx != wrap64 (lo - 1)) with
            | true => go_wp2; go_ret; exact ⟨by first | rfl | (simp only [*]; rfl) | (simp [*]; done), Gy1.out⟩
            | false =>
              have z1_m3 : y1.cell? ⟨w2.heap.size, 3, none⟩ = some (.int .i64 ix) := hm3.out _ Ry1_m.out
              have z1_s7 : y1.cell? ⟨w1.heap.size, 7, none⟩ = some (.int .i64 re) := hs7.out _ Ry1_s.out
              cases q6 : (ix != wrap64 (re + 1)) with
              | false => go_wp2; go_ret; exact ⟨by first | rfl | (simp only [*]; rfl) | (simp [*]; done), Gy1.out⟩
              | true =>
                go_wp2_with (first | refine wpW_load_at 32 _ rfl (w1.heap.size) (0) (by rfl) (by rfl) _ 115 _ (Ry1_s.out.at_ 0 (by omega) (fun i hi => by rw [Nat.zero_add])) Tryz.underlying32 rfl infoSt ?_ | refine wpW_load_at 36 _ rfl (w2.heap.size) (0) (by rfl) (by rfl) _ 70 _ (Ry1_m.out.at_ 0 (by omega) (fun i hi => by rw [Nat.zero_add])) Tryz.underlying36 rfl infoM ?_ | fail)
                refine (HL.out _).mono ?_
                rintro e y2 ⟨rfl, hb⟩
                clear z1_m4 z1_s6 z1_m3 z1_s7
                have Ry2_c := hide (Ry1_c.out.below hb Ry1_c.out.lt)
                have Ry2_s := hide (Ry1_s.out.below hb Ry1_s.out.lt)
                have Ry2_m := hide (Ry1_m.out.below hb Ry1_m.out.lt)
                have Gy2 := hide (Gy1.out.trans (hb.mono Gy1.out.size))
                clear hb
                cases LB with
                | false => go_wp2; go_ret; exact ⟨by first | rfl | (simp only [*]; rfl) | (simp [*]; done), Gy2.out⟩
                | true => go_wp2; go_ret; exact ⟨by first | rfl | (simp only [*]; rfl) | (simp [*]; done), Gy2.out⟩
          | false =>
            have z1_m3 : y1.cell? ⟨w2.heap.size, 3, none⟩ = some (.int .i64 ix) := hm3.out _ Ry1_m.out
            have z1_s7 : y1.cell? ⟨w1.heap.size, 7, none⟩ = some (.int .i64 re) := hs7.out _ Ry1_s.out
            cases q6 : (ix != wrap64 (re + 1)) with
            | false => go_wp2; go_ret; exact ⟨by first | rfl | (simp only [*]; rfl) | (simp [*]; done), Gy1.out⟩
            | true =>
              go_wp2_with (first | refine wpW_load_at 32 _ rfl (w1.heap.size) (0) (by rfl) (by rfl) _ 115 _ (Ry1_s.out.at_ 0 (by omega) (fun i hi => by rw [Nat.zero_add])) Tryz.underlying32 rfl infoSt ?_ | refine wpW_load_at 36 _ rfl (w2.heap.size) (0) (by rfl) (by rfl) _ 70 _ (Ry1_m.out.at_ 0 (by omega) (fun i hi => by rw [Nat.zero_add])) Tryz.underlying36 rfl infoM ?_ | fail)
              refine (HL.out _).mono ?_
              rintro e y2 ⟨rfl, hb⟩
              clear z1_m4 z1_s6 z1_m3 z1_s7
              have Ry2_c := hide (Ry1_c.out.below hb Ry1_c.out.lt)
              have Ry2_s := hide (Ry1_s.out.below hb Ry1_s.out.lt)
              have Ry2_m := hide (Ry1_m.out.below hb Ry1_m.out.lt)
              have Gy2 := hide (Gy1.out.trans (hb.mono Gy1.out.size))
              clear hb
              cases LB with
              | false => go_wp2; go_ret; exact ⟨by first | rfl | (simp only [*]; rfl) | (simp [*]; done), Gy2.out⟩
              | true => go_wp2; go_ret; exact ⟨by first | rfl | (simp only [*]; rfl) | (simp [*]; done), Gy2.out⟩
end Go.Proofs.YtmmcoedgoekhgaaGreatDoor
