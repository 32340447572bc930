/-
  Came of the code (printed by gen_d18.py).
-/
import Derived.Test.YtmmcoedgoekhgaaGreatDoorDOwText
import Derived.Test.YtmmcoedgoekhgaaGreatDoorDEq
import Derived.Test.YtmmcoedgoekhgaaGreatDoorDOwText
import Derived.Test.YtmmcoedgoekhgaaGreatDoorDStart
import Derived.Test.YtmmcoedgoekhgaaGreatDoorDEq
import Derived.Test.YtmmcoedgoekhgaaGreatDoorGSpend
import Derived.Deep.CutRange
namespace Go.Proofs.YtmmcoedgoekhgaaGreatDoor
open Go.RowKit S
set_option linter.unusedVariables false
set_option linter.unusedSimpArgs false
def dropAd (ad : Option Addr) (cap k : Nat) : Option Addr := if cap = k then ad else ad.map (·.add (k * 36))
theorem sliceD (w : World) (ad : Option Addr) (n cap k : Nat) (hk : k ≤ n) : (Instr.sliceAt 27 (.slice ad n cap) (some (.int .i64 (k : Int))) none none).run Tryz.prog w = .ok (.slice (dropAd ad cap k) (n - k) (cap - k)) w := by
  have e := run_sliceAt_slice (P := Tryz.prog) w 27 (.slice ad n cap) (some (.int .i64 (k : Int))) none none elU
  have e2 := run_slice_l (P := Tryz.prog) w 27 ad n cap elU .i64 (k : Int) (by omega) (by omega)
  rw [e, e2, sizeU]
  simp only [Result.andThen, sliced, dropAd, Int.toNat_natCast]
theorem Upds.drop {w : World} {ad : Option Addr} {l : List Upd} (h : Upds w ad l) (cap k : Nat) (hc : l.length ≤ cap) : Upds w (dropAd ad cap k) (l.drop k) := by
  by_cases hk : l.length ≤ k
  · exact .inl (List.drop_of_length_le hk)
  · rcases h with rfl | ⟨b, o, rfl, h2, h3⟩
    · exact .inl (by simp)
    · refine .inr ⟨b, o + k * 36, ?_, h2, fun i s hs => ?_⟩
      · unfold dropAd
        rw [if_neg (by omega)]
        simp [Addr.add]
      · rw [List.getElem?_drop] at hs
        have := h3 _ s hs
        rw [show o + k * 36 + i * 36 = o + (k + i) * 36 by omega]
        exact this
theorem Upds.none {w : World} {ad : Option Addr} {l : List Upd} (h : Upds w ad l) : ad = .none → l = [] := by
  rintro rfl
  rcases h with rfl | ⟨b, o, h1, _⟩
  · rfl
  · cases h1
def cameR (i : Int) (x : Sl) (sg : Nat → UInt8) : Rc := ⟨3, Upd.zero, x, i, 0, 0, sg, fun _ => 0, fun _ => 0, 0⟩
set_option maxRecDepth 100000 in
theorem builtRC (i : Int) (ad : Option Addr) (n c : Nat) (p : Nat → UInt8) : Tryz.prog.built 42 [(0, .int .i64 3), (3, .int .i64 i), (2, .slice ad n c), (5, .agg (tabv (bv p) 32))] = some (tabv (cameR i ⟨ad, n, c⟩ p).v 138) := by kernel_rfl
/-- What a region that ends in the store of its record holds all along. -/
structure SCm (w : World) (bm br : Nat) (m : Msg) (wx : World) : Prop where
  m : Has wx bm 36 m.v 70
  r : ∃ f, Has wx br 42 f 138
  b : Below w.heap.size w wx
theorem SCm.step {w : World} {bm br : Nat} {m : Msg} {wx wy : World} (h : SCm w bm br m wx) (hb : Below wx.heap.size wx wy) : SCm w bm br m wy :=
  ⟨h.m.below hb h.m.lt, h.r.imp fun _ k => k.below hb k.lt, h.b.trans (hb.mono h.b.size)⟩
theorem SCm.store {w : World} {bm br : Nat} {m : Msg} {wx : World} (h : SCm w bm br m wx) (M : Rc) (h2 : bm ≠ br) (h3 : w.heap.size ≤ br) : SCm w bm br m (wx.setRow br (tabv M.v 138)) ∧ Has (wx.setRow br (tabv M.v 138)) br 42 M.v 138 := by
  obtain ⟨f, hf⟩ := h.r
  exact ⟨⟨h.m.row_other _ _ h2, ⟨_, hf.row _ M.v rfl⟩, below_setRow h.b h3 _⟩, hf.row _ M.v rfl⟩
/-- Came's first refusals. -/
def cameE (s : St) (m : Msg) : Int := bif deadB s then 220 else bif (m.kind != 4) then 160 else bif ((m.idx != wrap64 (s.loc + 1)) || decide (s.loc > 281474976710653)) then 90 else bif ((s.ho == s.ao) && ((s.peers.n : Int) == s.ap)) then 8 else 0
/-- What Came answers. -/
structure CameP (c : Cf) (s : St) (m : Msg) (mine others : List Upd) (B : Nat) (w' : World) (R : Rc) (E : Int) : Prop where
  no : cameE s m ≠ 0 → R = Rc.zero ∧ E = cameE s m
  go : cameE s m = 0 → ∃ tb tc, TX (owF s mine others s.ho (s.peers.n : Int)) s.side m.idx (sha (listOf (secretA c.seed m.idx).1)) (owF s mine others s.ho (s.peers.n : Int)).x (owF s mine others s.ho (s.peers.n : Int)).y (owF s mine others s.ho (s.peers.n : Int)).l tb tc ∧ ((tc ≠ 0 ∨ sameH m.hash (mac c.pkey tb.data.toList) = false) → R = Rc.zero ∧ E = 110) ∧ (tc = 0 → sameH m.hash (mac c.pkey tb.data.toList) = true → ∃ x : Sl, R = cameR m.idx x m.hash ∧ E = 0 ∧ OwnU B w' x.v (others.drop (withinN s.ap s.peers.n)))
set_option maxRecDepth 100000 in
set_option maxHeartbeats 40000000 in
theorem came_any (num : Num) (c : Cf) (s : St) (m : Msg) (mine others : List Upd) (hn1 : mine.length = s.ours.n) (hn2 : others.length = s.peers.n) (z1 : s.ours.n ≤ 1955000000000) (z2 : s.peers.n ≤ 1954687338211) (k1 : s.ours.n ≤ s.ours.c) (k2 : s.peers.n ≤ s.peers.c) (w : World) (hG : Glob num w) (hS1 : Upds w s.ours.ad mine) (hS2 : Upds w s.peers.ad others) : Calls Tryz.prog 20 #[.agg (tabv c.v 164), .agg (tabv s.v 115), .agg (tabv m.v 70)] w fun e w' => ∃ R E, e = .returned (.tuple #[.agg (tabv (Rc.v R) 138), .int .i64 E]) ∧ CameP c s m mine others w.heap.size w' R E ∧ Below w.heap.size w w' := by
  obtain ⟨w1, hW1⟩ : ∃ wX, w.alloc (.cells (tabv c.v 164) 26) = wX := ⟨_, rfl⟩
  have rc : Has w1 w.heap.size 26 c.v 164 := by rw [← hW1]; exact Has.new w 26 c.v 164 _ rfl
  have bb : Below w.heap.size w w1 := by rw [← hW1]; exact (Below.refl w.heap.size w).alloc (Nat.le_refl _) _
  have gb : Below w.heap.size w w1 := bb
  clear bb
  obtain ⟨w2, hW2⟩ : ∃ wX, w1.alloc (.cells (tabv s.v 115) 32) = wX := ⟨_, rfl⟩
  have rs : Has w2 w1.heap.size 32 s.v 115 := by rw [← hW2]; exact Has.new w1 32 s.v 115 _ rfl
  have bb : Below w1.heap.size w1 w2 := by rw [← hW2]; exact (Below.refl w1.heap.size w1).alloc (Nat.le_refl _) _
  have rc := rc.below bb rc.lt
  have gb : Below w.heap.size w w2 := gb.trans (bb.mono gb.size)
  clear bb
  obtain ⟨w3, hW3⟩ : ∃ wX, w2.alloc (.cells (tabv m.v 70) 36) = wX := ⟨_, rfl⟩
  have rm : Has w3 w2.heap.size 36 m.v 70 := by rw [← hW3]; exact Has.new w2 36 m.v 70 _ rfl
  have bb : Below w2.heap.size w2 w3 := by rw [← hW3]; exact (Below.refl w2.heap.size w2).alloc (Nat.le_refl _) _
  have rc := rc.below bb rc.lt
  have rs := rs.below bb rs.lt
  have gb : Below w.heap.size w w3 := gb.trans (bb.mono gb.size)
  clear bb
  obtain ⟨w4, hW4⟩ : ∃ wX, w3.alloc (.cells (tabv Rc.zero.v 138) 42) = wX := ⟨_, rfl⟩
  have rr : Has w4 w3.heap.size 42 Rc.zero.v 138 := by rw [← hW4]; exact Has.new w3 42 Rc.zero.v 138 _ rfl
  have bb : Below w3.heap.size w3 w4 := by rw [← hW4]; exact (Below.refl w3.heap.size w3).alloc (Nat.le_refl _) _
  have rc := rc.below bb rc.lt
  have rs := rs.below bb rs.lt
  have rm := rm.below bb rm.lt
  have gb : Below w.heap.size w w4 := gb.trans (bb.mono gb.size)
  clear bb
  have Rb_c := hide rc
  have Rb_s := hide rs
  have Rb_m := hide rm
  have Rb_r := hide rr
  have GB := hide gb
  clear gb rc rs rm rr
  have LT1 : w.heap.size < w1.heap.size := (by rw [← hW1, size_alloc]; omega)
  have LT2 : w1.heap.size < w2.heap.size := (by rw [← hW2, size_alloc]; omega)
  have LT3 : w2.heap.size < w3.heap.size := (by rw [← hW3, size_alloc]; omega)
  have LB_r : w.heap.size ≤ w3.heap.size := by omega
  rw [← zeroRc] at hW4
  have HD := hide (fun w : World => dead_any s w)
  have HT := hide (fun wx (hb : Below w.heap.size w wx) => ownText_any num c s m.idx s.ho (s.peers.n : Int) mine others hn1 hn2 z1 (by omega) k1 k2 wx (hG.up hb) (hS1.below hb) (hS2.below hb))
  have FL := hide (show (owF s mine others s.ho (s.peers.n : Int)).l.length ≤ 3910000000000 from fold_len s.bo s.bp mine others s.ho (s.peers.n : Int) (by omega) (by omega))
  have HG := hide (fun wx (hb : Below w.heap.size w wx) => hG.up hb)
  have hk : withinN s.ap s.peers.n ≤ s.peers.n := by unfold withinN; omega
  have HW := hide (fun w : World => dwithin_any s.ap s.peers.ad s.peers.n s.peers.c w)
  have SK := hide (fun w => sliceD w s.peers.ad s.peers.n s.peers.c (withinN s.ap s.peers.n) (by omega))
  have HC := hide (fun wx (hb : Below w.heap.size w wx) => uclone_any (dropAd s.peers.ad s.peers.c (withinN s.ap s.peers.n)) (s.peers.n - withinN s.ap s.peers.n) (s.peers.c - withinN s.ap s.peers.n) (others.drop (withinN s.ap s.peers.n)) (by rw [List.length_drop, hn2]) (by omega) ((hS2.below hb).drop s.peers.c (withinN s.ap s.peers.n) (by omega)).none wx ((hS2.below hb).drop s.peers.c (withinN s.ap s.peers.n) (by omega)))
  have PZ : ∀ (B : Nat) (w' : World), cameE s m ≠ 0 → CameP c s m mine others B w' Rc.zero (cameE s m) := fun B w' h => ⟨fun _ => ⟨rfl, rfl⟩, fun e => absurd e h⟩
  have PG : cameE s m = 0 → ∀ (B : Nat) (w' : World) tb tc, TX (owF s mine others s.ho (s.peers.n : Int)) s.side m.idx (sha (listOf (secretA c.seed m.idx).1)) (owF s mine others s.ho (s.peers.n : Int)).x (owF s mine others s.ho (s.peers.n : Int)).y (owF s mine others s.ho (s.peers.n : Int)).l tb tc → ((tc ≠ 0 ∨ sameH m.hash (mac c.pkey tb.data.toList) = false) → CameP c s m mine others B w' Rc.zero 110) ∧ (tc = 0 → sameH m.hash (mac c.pkey tb.data.toList) = true → ∀ x : Sl, OwnU B w' x.v (others.drop (withinN s.ap s.peers.n)) → CameP c s m mine others B w' (cameR m.idx x m.hash) 0) := by
    intro h0 B w' tb tc tx
    refine ⟨fun h => ⟨fun e => absurd h0 e, fun _ => ⟨tb, tc, tx, fun _ => ⟨rfl, rfl⟩, fun e1 e2 => ?_⟩⟩, fun e1 e2 x hx => ⟨fun e => absurd h0 e, fun _ => ⟨tb, tc, tx, fun h => ?_, fun _ _ => ⟨x, rfl, rfl, hx⟩⟩⟩⟩
    · rcases h with h | h
      · exact absurd e1 h
      · rw [e2] at h; cases h
    · rcases h with h | h
      · exact absurd e1 h
      · rw [e2] at h; cases h
  generalize hCP : CameP c s m mine others = CP at PZ PG ⊢
  clear hCP
  unfold cameE at PZ PG
  have PZ := hide PZ
  have PG := hide PG
  clear hn1 hn2 z1 z2 k1 k2 hS1 hS2 hG hk
  generalize owF s mine others s.ho (s.peers.n : Int) = F at HT PG FL
  generalize deadB s = D at HD PZ PG
  generalize sha (listOf (secretA c.seed m.idx).1) = PT at HT PG
  generalize withinN s.ap s.peers.n = kP at HW SK HC PG
  generalize others.drop kP = OD at HC PG
  generalize dropAd s.peers.ad s.peers.c kP = DA at SK HC
  have hpk : ∀ wx, Has wx (w.heap.size) 26 c.v 164 → At wx w.heap.size 67 (bv c.pkey) 32 := fun wx h => h.at_ 67 (by omega) (fun i hi => c.v_pkey i hi)
  generalize c.pkey = pkey at hpk PG ⊢
  replace hpk := hide hpk
  have hhs : ∀ wx, Has wx (w2.heap.size) 36 m.v 70 → At wx w2.heap.size 5 (bv m.hash) 32 := fun wx h => h.at_ 5 (by omega) (fun i hi => m.v_hash i hi)
  generalize m.hash = hsh at hhs PG
  replace hhs := hide hhs
  have hs5 : ∀ wx, Has wx (w1.heap.size) 32 s.v 115 → wx.cell? ⟨w1.heap.size, 5, none⟩ = some (.slice s.peers.ad s.peers.n s.peers.c) := fun wx h => h.cell 5 (by omega)
  generalize s.peers.n = n at hs5 HW SK HC HT PZ PG
  generalize s.peers.ad = oa at hs5 HW SK
  generalize s.peers.c = oc at hs5 HW SK HC
  replace hs5 := hide hs5
  have hm0 : ∀ wx, Has wx (w2.heap.size) 36 m.v 70 → wx.cell? ⟨w2.heap.size, 0, none⟩ = some (.int .i64 m.kind) := fun wx h => h.cell 0 (by omega)
  generalize m.kind = kd at hm0 PZ PG ⊢
  replace hm0 := hide hm0
  have hm3 : ∀ wx, Has wx (w2.heap.size) 36 m.v 70 → wx.cell? ⟨w2.heap.size, 3, none⟩ = some (.int .i64 m.idx) := fun wx h => h.cell 3 (by omega)
  generalize m.idx = ix at hm3 PZ PG HT ⊢
  replace hm3 := hide hm3
  have hs6 : ∀ wx, Has wx (w1.heap.size) 32 s.v 115 → wx.cell? ⟨w1.heap.size, 6, none⟩ = some (.int .i64 s.loc) := fun wx h => h.cell 6 (by omega)
  generalize s.loc = lo at hs6 PZ PG ⊢
  replace hs6 := hide hs6
  have hs13 : ∀ wx, Has wx (w1.heap.size) 32 s.v 115 → wx.cell? ⟨w1.heap.size, 13, none⟩ = some (.int .i64 s.ho) := fun wx h => h.cell 13 (by omega)
  generalize s.ho = ho at hs13 PZ PG HT ⊢
  replace hs13 := hide hs13
  have hs9 : ∀ wx, Has wx (w1.heap.size) 32 s.v 115 → wx.cell? ⟨w1.heap.size, 9, none⟩ = some (.int .i64 s.ao) := fun wx h => h.cell 9 (by omega)
  generalize s.ao = ao at hs9 PZ PG ⊢
  replace hs9 := hide hs9
  have hs10 : ∀ wx, Has wx (w1.heap.size) 32 s.v 115 → wx.cell? ⟨w1.heap.size, 10, none⟩ = some (.int .i64 s.ap) := fun wx h => h.cell 10 (by omega)
  generalize s.ap = ap at hs10 PZ PG HW ⊢
  replace hs10 := hide hs10
  have HQ : Hid (∀ wq : World, (Op.equalIn 10000 29 (.agg #[.int .i64 ho, .int .i64 (n : Int)]) (.agg #[.int .i64 ao, .int .i64 ap])).run Tryz.prog wq = .ok ((ho == ao) && ((n : Int) == ap)) wq) := fun wq => eqCD wq ho (n : Int) ao ap
  generalize ((ho == ao) && ((n : Int) == ap)) = R8 at HQ PZ PG
  have z0_s5 : w4.cell? ⟨w1.heap.size, 5, none⟩ = some (.slice oa n oc) := hs5.out _ Rb_s.out
  have z0_s13 : w4.cell? ⟨w1.heap.size, 13, none⟩ = some (.int .i64 ho) := hs13.out _ Rb_s.out
  obtain ⟨w5, hW5⟩ : ∃ wX, w4.alloc (.cells #[.int .i64 ho, .int .i64 (n : Int)] 29) = wX := ⟨_, rfl⟩
  have rn : Has w5 w4.heap.size 29 (cnV ho (n : Int)) 2 := by rw [← hW5]; exact Has.new w4 _ (cnV _ _) 2 _ rfl
  have hb : Below w4.heap.size w4 w5 := by rw [← hW5]; exact (Below.refl w4.heap.size w4).alloc (Nat.le_refl _) _
  have Rw5_c := hide (Rb_c.out.below hb Rb_c.out.lt)
  have Rw5_s := hide (Rb_s.out.below hb Rb_s.out.lt)
  have Rw5_m := hide (Rb_m.out.below hb Rb_m.out.lt)
  have Rw5_r := hide (Rb_r.out.below hb Rb_r.out.lt)
  have Gw5 := hide (GB.out.trans (hb.mono GB.out.size))
  clear hb
  have Rw5_n := hide rn
  clear rn
  go_enter Tryz.func20, Tryz.ntmps20
  go_wp2_with (first | (rw [hW5]) | refine wpW_load_at 32 _ rfl (w1.heap.size) (0) (by rfl) (by rfl) _ 115 _ (Rw5_s.out.at_ 0 (by omega) (fun i hi => by rw [Nat.zero_add])) Tryz.underlying32 rfl infoSt ?_ | fail)
  refine (HD.out _).mono ?_
  rintro e y1 ⟨rfl, hb⟩
  clear z0_s5 z0_s13
  have Ry1_c := hide (Rw5_c.out.below hb Rw5_c.out.lt)
  have Ry1_s := hide (Rw5_s.out.below hb Rw5_s.out.lt)
  have Ry1_m := hide (Rw5_m.out.below hb Rw5_m.out.lt)
  have Ry1_r := hide (Rw5_r.out.below hb Rw5_r.out.lt)
  have Ry1_n := hide (Rw5_n.out.below hb Rw5_n.out.lt)
  have Gy1 := hide (Gw5.out.trans (hb.mono Gw5.out.size))
  clear hb
  cases D with
  | true =>
    go_upto_region 3 with fail
    go_wp2_with (first | refine wpW_build (by rfl) 42 #[] rfl [] (by first | rfl | (simp [Act.eval, Act.put]; done)) _ builtRZ ?_ | refine wpList_storeRc rfl _ _ rfl rfl (w3.heap.size) (Rc.zero) rfl rfl _ Ry1_r.out ?_ | fail)
    (try simp only [Exit.inBlock, Exit.then])
    exact bodyPost_ret (resRc _ (w3.heap.size) _ _ (.int .i64 220) 6 7 (Ry1_r.out.row _ (Rc.v Rc.zero) rfl) rfl rfl _ rfl) rfl ⟨_, _, rfl, by have h := PZ.out; simp only [*, cond_true, cond_false, Bool.true_or, Bool.or_true, Bool.false_or, Bool.or_false, Bool.and_self] at h; exact h _ _ (by decide), below_setRow Gy1.out (by first | omega | exact LB_r) _⟩
  | false =>
    have z1_m0 : y1.cell? ⟨w2.heap.size, 0, none⟩ = some (.int .i64 kd) := hm0.out _ Ry1_m.out
    have z1_m3 : y1.cell? ⟨w2.heap.size, 3, none⟩ = some (.int .i64 ix) := hm3.out _ Ry1_m.out
    have z1_s6 : y1.cell? ⟨w1.heap.size, 6, none⟩ = some (.int .i64 lo) := hs6.out _ Ry1_s.out
    have z1_s9 : y1.cell? ⟨w1.heap.size, 9, none⟩ = some (.int .i64 ao) := hs9.out _ Ry1_s.out
    have z1_s10 : y1.cell? ⟨w1.heap.size, 10, none⟩ = some (.int .i64 ap) := hs10.out _ Ry1_s.out
    have z1_n0 : y1.cell? ⟨w4.heap.size, 0, none⟩ = some (.int .i64 ho) := Ry1_n.out.cell 0 (by omega)
    have z1_n1 : y1.cell? ⟨w4.heap.size, 1, none⟩ = some (.int .i64 (n : Int)) := Ry1_n.out.cell 1 (by omega)
    cases q4 : (kd != 4) with
    | true =>
      go_upto_region 5 with fail
      go_wp2_with (first | refine wpW_build (by rfl) 42 #[] rfl [] (by first | rfl | (simp [Act.eval, Act.put]; done)) _ builtRZ ?_ | refine wpList_storeRc rfl _ _ rfl rfl (w3.heap.size) (Rc.zero) rfl rfl _ Ry1_r.out ?_ | fail)
      (try simp only [Exit.inBlock, Exit.then])
      exact bodyPost_ret (resRc _ (w3.heap.size) _ _ (.int .i64 160) 6 7 (Ry1_r.out.row _ (Rc.v Rc.zero) rfl) rfl rfl _ rfl) rfl ⟨_, _, rfl, by have h := PZ.out; simp only [*, cond_true, cond_false, Bool.true_or, Bool.or_true, Bool.false_or, Bool.or_false, Bool.and_self] at h; exact h _ _ (by decide), below_setRow Gy1.out (by first | omega | exact LB_r) _⟩
    | false =>
      cases q6a : (ix != wrap64 (lo + 1)) with
      | true =>
        go_upto_region 7 with fail
        go_wp2_with (first | refine wpW_build (by rfl) 42 #[] rfl [] (by first | rfl | (simp [Act.eval, Act.put]; done)) _ builtRZ ?_ | refine wpList_storeRc rfl _ _ rfl rfl (w3.heap.size) (Rc.zero) rfl rfl _ Ry1_r.out ?_ | fail)
        (try simp only [Exit.inBlock, Exit.then])
        exact bodyPost_ret (resRc _ (w3.heap.size) _ _ (.int .i64 90) 6 7 (Ry1_r.out.row _ (Rc.v Rc.zero) rfl) rfl rfl _ rfl) rfl ⟨_, _, rfl, by have h := PZ.out; simp only [*, cond_true, cond_false, Bool.true_or, Bool.or_true, Bool.false_or, Bool.or_false, Bool.and_self] at h; exact h _ _ (by decide), below_setRow Gy1.out (by first | omega | exact LB_r) _⟩
      | false =>
        cases q6b : decide (lo > 281474976710653) with
        | true =>
          go_upto_region 7 with fail
          go_wp2_with (first | refine wpW_build (by rfl) 42 #[] rfl [] (by first | rfl | (simp [Act.eval, Act.put]; done)) _ builtRZ ?_ | refine wpList_storeRc rfl _ _ rfl rfl (w3.heap.size) (Rc.zero) rfl rfl _ Ry1_r.out ?_ | fail)
          (try simp only [Exit.inBlock, Exit.then])
          exact bodyPost_ret (resRc _ (w3.heap.size) _ _ (.int .i64 90) 6 7 (Ry1_r.out.row _ (Rc.v Rc.zero) rfl) rfl rfl _ rfl) rfl ⟨_, _, rfl, by have h := PZ.out; simp only [*, cond_true, cond_false, Bool.true_or, Bool.or_true, Bool.false_or, Bool.or_false, Bool.and_self] at h; exact h _ _ (by decide), below_setRow Gy1.out (by first | omega | exact LB_r) _⟩
        | false =>
          cases R8 with
          | true =>
            go_upto_region 9 with (first | refine wpW_eqC rfl _ _ rfl _ _ _ rfl rfl HQ.out ?_ | fail)
            go_wp2_with (first | refine wpW_build (by rfl) 42 #[] rfl [] (by first | rfl | (simp [Act.eval, Act.put]; done)) _ builtRZ ?_ | refine wpList_storeRc rfl _ _ rfl rfl (w3.heap.size) (Rc.zero) rfl rfl _ Ry1_r.out ?_ | fail)
            (try simp only [Exit.inBlock, Exit.then])
            exact bodyPost_ret (resRc _ (w3.heap.size) _ _ (.int .i64 8) 6 7 (Ry1_r.out.row _ (Rc.v Rc.zero) rfl) rfl rfl _ rfl) rfl ⟨_, _, rfl, by have h := PZ.out; simp only [*, cond_true, cond_false, Bool.true_or, Bool.or_true, Bool.false_or, Bool.or_false, Bool.and_self] at h; exact h _ _ (by decide), below_setRow Gy1.out (by first | omega | exact LB_r) _⟩
          | false =>
            have h := PG.out
            simp only [q4, q6a, q6b, cond_true, cond_false, Bool.or_self] at h
            have PG1 := hide (h (by first | trivial | rfl))
            clear h PG PZ
            go_upto_region 10 with (first | refine wpW_eqC rfl _ _ rfl _ _ _ rfl rfl HQ.out ?_ | fail)
            clear z1_m0 z1_m3 z1_s6 z1_s9 z1_s10 z1_n0 z1_n1
            clear q4 q6a q6b
            have z1_n0 : y1.cell? ⟨w4.heap.size, 0, none⟩ = some (.int .i64 ho) := Ry1_n.out.cell 0 (by omega)
            have z1_n1 : y1.cell? ⟨w4.heap.size, 1, none⟩ = some (.int .i64 (n : Int)) := Ry1_n.out.cell 1 (by omega)
            have z1_m3 : y1.cell? ⟨w2.heap.size, 3, none⟩ = some (.int .i64 ix) := hm3.out _ Ry1_m.out
            go_wp2_with (first | refine wpW_load_at 26 _ rfl (w.heap.size) (0) (by rfl) (by rfl) _ 164 _ (Ry1_c.out.at_ 0 (by omega) (fun i hi => by rw [Nat.zero_add])) Tryz.underlying26 rfl infoCf ?_ | refine wpW_load_at 32 _ rfl (w1.heap.size) (0) (by rfl) (by rfl) _ 115 _ (Ry1_s.out.at_ 0 (by omega) (fun i hi => by rw [Nat.zero_add])) Tryz.underlying32 rfl infoSt ?_ | fail)
            refine (HT.out _ Gy1.out).mono ?_
            rintro e y2 ⟨tb, tc, rfl, hTX, hb⟩
            clear z1_n0 z1_n1 z1_m3
            have TT := hide hTX
            skip
            clear hTX
            have Ry2_c := hide (Ry1_c.out.below hb Ry1_c.out.lt)
            have Ry2_s := hide (Ry1_s.out.below hb Ry1_s.out.lt)
            have Ry2_m := hide (Ry1_m.out.below hb Ry1_m.out.lt)
            have Ry2_r := hide (Ry1_r.out.below hb Ry1_r.out.lt)
            have Ry2_n := hide (Ry1_n.out.below hb Ry1_n.out.lt)
            have Gy2 := hide (Gy1.out.trans (hb.mono Gy1.out.size))
            clear hb
            have PG2 := hide (fun wx => PG1.out w.heap.size wx tb tc TT.out)
            clear PG1
            cases q11 : (tc != 0) with
            | true =>
              go_upto_region 12 with fail
              go_wp2_with (first | refine wpW_build (by rfl) 42 #[] rfl [] (by first | rfl | (simp [Act.eval, Act.put]; done)) _ builtRZ ?_ | refine wpList_storeRc rfl _ _ rfl rfl (w3.heap.size) (Rc.zero) rfl rfl _ Ry2_r.out ?_ | fail)
              (try simp only [Exit.inBlock, Exit.then])
              exact bodyPost_ret (resRc _ (w3.heap.size) _ _ (.int .i64 110) 6 7 (Ry2_r.out.row _ (Rc.v Rc.zero) rfl) rfl rfl _ rfl) rfl ⟨_, _, rfl, by exact (PG2.out _).1 (.inl (by simpa using q11)), below_setRow Gy2.out (by first | omega | exact LB_r) _⟩
            | false =>
              go_upto_region 11 with fail
              go_wp2_with (first | refine wpW_load_at 23 _ rfl (w.heap.size) (67) (by rfl) (by rfl) _ 32 _ (hpk.out _ Ry2_c.out) Tryz.underlying23 rfl info26 ?_ | refine wpW_load_at 23 _ rfl (w2.heap.size) (5) (by rfl) (by rfl) _ 32 _ (hhs.out _ Ry2_m.out) Tryz.underlying23 rfl info26 ?_ | fail)
              refine (right_anyE num pkey hsh tb _ (HG.out _ Gy2.out) (tx_size TT.out FL.out)).mono ?_
              rintro e y3 ⟨rfl, hb⟩
              have Ry3_c := hide (Ry2_c.out.below hb Ry2_c.out.lt)
              have Ry3_s := hide (Ry2_s.out.below hb Ry2_s.out.lt)
              have Ry3_m := hide (Ry2_m.out.below hb Ry2_m.out.lt)
              have Ry3_r := hide (Ry2_r.out.below hb Ry2_r.out.lt)
              have Ry3_n := hide (Ry2_n.out.below hb Ry2_n.out.lt)
              have Gy3 := hide (Gy2.out.trans (hb.mono Gy2.out.size))
              clear hb
              generalize hSH : sameH hsh (mac pkey tb.data.toList) = SH at PG2 ⊢
              clear hSH
              cases SH with
              | false =>
                go_upto_region 12 with fail
                go_wp2_with (first | refine wpW_build (by rfl) 42 #[] rfl [] (by first | rfl | (simp [Act.eval, Act.put]; done)) _ builtRZ ?_ | refine wpList_storeRc rfl _ _ rfl rfl (w3.heap.size) (Rc.zero) rfl rfl _ Ry3_r.out ?_ | fail)
                (try simp only [Exit.inBlock, Exit.then])
                exact bodyPost_ret (resRc _ (w3.heap.size) _ _ (.int .i64 110) 6 7 (Ry3_r.out.row _ (Rc.v Rc.zero) rfl) rfl rfl _ rfl) rfl ⟨_, _, rfl, by exact (PG2.out _).1 (.inr (by first | trivial | rfl)), below_setRow Gy3.out (by first | omega | exact LB_r) _⟩
              | true =>
                have PG3 := hide (fun wx => (PG2.out wx).2 (by simpa using q11) (by first | trivial | rfl))
                clear PG2 q11
                go_upto_region 13 with fail
                refine wp_region_noPanic ?_
                refine wp_region_held_drew (S := fun wx => Below y3.heap.size y3 wx) (by kernel_rfl) ((Below.refl _ _).drew) (fun hHeld => ?_)
                generalize hwd : World.drew y3 = wd at hHeld ⊢
                refine Cu.takeH 0 (some 68) (.pointer (some ⟨w1.heap.size, 5, none⟩)) rfl rfl (by kernel_rfl) (by kernel_rfl) (by kernel_rfl) (fun _ _ _ h => h) (by rfl) (fun w_ hw => by first | rfl | (go_simp; done) | (go_simp; rfl) | (go_simp; omega)) hHeld ?_
                simp only [Act.put, List.setIfInBounds_toArray, List.set_cons_zero, List.set_cons_succ]
                refine Cu.takeH 1 (some 69) (.slice oa n oc) rfl rfl (by kernel_rfl) (by kernel_rfl) (by kernel_rfl) (fun _ _ _ h => h) (by rfl) (fun w_ hw => by have c : World.cell? _ ⟨w1.heap.size, 5, none⟩ = some (.slice oa n oc) := hs5.out _ (Ry3_s.out.below hw Ry3_s.out.lt); first | rfl | (go_simp; done) | (go_simp; rfl)) hHeld ?_
                simp only [Act.put, List.setIfInBounds_toArray, List.set_cons_zero, List.set_cons_succ]
                refine Cu.takeH 2 (some 70) (.pointer (some ⟨w1.heap.size, 9, none⟩)) rfl rfl (by kernel_rfl) (by kernel_rfl) (by kernel_rfl) (fun _ _ _ h => h) (by rfl) (fun w_ hw => by first | rfl | (go_simp; done) | (go_simp; rfl) | (go_simp; omega)) hHeld ?_
                simp only [Act.put, List.setIfInBounds_toArray, List.set_cons_zero, List.set_cons_succ]
                refine Cu.takeH 3 (some 71) (.pointer (some ⟨w1.heap.size, 10, none⟩)) rfl rfl (by kernel_rfl) (by kernel_rfl) (by kernel_rfl) (fun _ _ _ h => h) (by rfl) (fun w_ hw => by first | rfl | (go_simp; done) | (go_simp; rfl) | (go_simp; omega)) hHeld ?_
                simp only [Act.put, List.setIfInBounds_toArray, List.set_cons_zero, List.set_cons_succ]
                refine Cu.takeH 4 (some 72) (.int .i64 ap) rfl rfl (by kernel_rfl) (by kernel_rfl) (by kernel_rfl) (fun _ _ _ h => h) (by rfl) (fun w_ hw => by have c : World.cell? _ ⟨w1.heap.size, 10, none⟩ = some (.int .i64 ap) := hs10.out _ (Ry3_s.out.below hw Ry3_s.out.lt); first | rfl | (go_simp; done) | (go_simp; rfl)) hHeld ?_
                simp only [Act.put, List.setIfInBounds_toArray, List.set_cons_zero, List.set_cons_succ]
                refine Cu.takeH 5 (some 73) (.pointer (some ⟨w1.heap.size, 5, none⟩)) rfl rfl (by kernel_rfl) (by kernel_rfl) (by kernel_rfl) (fun _ _ _ h => h) (by rfl) (fun w_ hw => by first | rfl | (go_simp; done) | (go_simp; rfl) | (go_simp; omega)) hHeld ?_
                simp only [Act.put, List.setIfInBounds_toArray, List.set_cons_zero, List.set_cons_succ]
                refine Cu.takeH 6 (some 74) (.slice oa n oc) rfl rfl (by kernel_rfl) (by kernel_rfl) (by kernel_rfl) (fun _ _ _ h => h) (by rfl) (fun w_ hw => by have c : World.cell? _ ⟨w1.heap.size, 5, none⟩ = some (.slice oa n oc) := hs5.out _ (Ry3_s.out.below hw Ry3_s.out.lt); first | rfl | (go_simp; done) | (go_simp; rfl)) hHeld ?_
                simp only [Act.put, List.setIfInBounds_toArray, List.set_cons_zero, List.set_cons_succ]
                refine wpAnyH_ready (rs := [7]) (by kernel_rfl) (by simp) (AllReadyH.cons rfl (fun K hK => ?_) AllReadyH.nil)
                rw [if_pos (by rfl)]
                go_simp
                refine (HW.out _).mono ?_
                rintro e wx ⟨rfl, hx⟩
                try go_wp2_with fail
                refine hK.out _ _ (hx ▸ hHeld) (fun hH => ?_)
                clear hK K hHeld
                have hHeld := hH
                clear hH
                refine Cu.takeH 8 (some 76) (.slice DA (n - kP) (oc - kP)) rfl rfl (by kernel_rfl) (by kernel_rfl) (by kernel_rfl) (fun _ _ _ h => h) (by rfl) (fun w_ hw => by have c := SK.out w_; first | rfl | (go_simp; done) | (go_simp; rfl) | (go_simp; omega)) hHeld ?_
                simp only [Act.put, List.setIfInBounds_toArray, List.set_cons_zero, List.set_cons_succ]
                refine Cu.takeH 9 (some 11) (.slice DA (n - kP) (oc - kP)) rfl rfl (by kernel_rfl) (by kernel_rfl) (by kernel_rfl) (fun _ _ _ h => h) (by rfl) (fun w_ hw => by first | rfl | (go_simp; done) | (go_simp; rfl) | (go_simp; omega)) hHeld ?_
                simp only [Act.put, List.setIfInBounds_toArray, List.set_cons_zero, List.set_cons_succ]
                refine ⟨by kernel_rfl, ?_⟩
                refine NoPanic.normal ?_
                have hb := hHeld
                clear hHeld hwd
                have Rwx_c := hide (Ry3_c.out.below hb Ry3_c.out.lt)
                have Rwx_s := hide (Ry3_s.out.below hb Ry3_s.out.lt)
                have Rwx_m := hide (Ry3_m.out.below hb Ry3_m.out.lt)
                have Rwx_r := hide (Ry3_r.out.below hb Ry3_r.out.lt)
                have Rwx_n := hide (Ry3_n.out.below hb Ry3_n.out.lt)
                have Gwx := hide (Gy3.out.trans (hb.mono Gy3.out.size))
                clear hb
                go_upto_region 14 with fail
                have N1 : w2.heap.size ≠ w3.heap.size := by omega
                refine wp_region_noPanic ?_
                refine wp_region_held_drew (S := SCm w w2.heap.size w3.heap.size m) (by kernel_rfl) (⟨Rwx_m.out, ⟨_, Rwx_r.out⟩, belowD Gwx.out 1⟩) (fun hHeld => ?_)
                generalize hwd : World.drew wx = wd2 at hHeld ⊢
                refine Cu.takeH 0 (some 77) (.pointer (some ⟨w2.heap.size, 3, none⟩)) rfl rfl (by kernel_rfl) (by kernel_rfl) (by kernel_rfl) (fun _ _ _ h => h) (by rfl) (fun w_ hw => by first | rfl | (go_simp; done) | (go_simp; rfl) | (go_simp; omega)) hHeld ?_
                simp only [Act.put, List.setIfInBounds_toArray, List.set_cons_zero, List.set_cons_succ]
                refine Cu.takeH 1 (some 78) (.int .i64 ix) rfl rfl (by kernel_rfl) (by kernel_rfl) (by kernel_rfl) (fun _ _ _ h => h) (by rfl) (fun w_ hw => by have c : World.cell? _ ⟨w2.heap.size, 3, none⟩ = some (.int .i64 ix) := hm3.out _ hw.m; first | rfl | (go_simp; done) | (go_simp; rfl)) hHeld ?_
                simp only [Act.put, List.setIfInBounds_toArray, List.set_cons_zero, List.set_cons_succ]
                refine Cu.takeH 2 (some 79) (.slice DA (n - kP) (oc - kP)) rfl rfl (by kernel_rfl) (by kernel_rfl) (by kernel_rfl) (fun _ _ _ h => h) (by rfl) (fun w_ hw => by first | rfl | (go_simp; done) | (go_simp; rfl) | (go_simp; omega)) hHeld ?_
                simp only [Act.put, List.setIfInBounds_toArray, List.set_cons_zero, List.set_cons_succ]
                refine Cu.takeH 4 (some 81) (.pointer (some ⟨w2.heap.size, 5, none⟩)) rfl rfl (by kernel_rfl) (by kernel_rfl) (by kernel_rfl) (fun _ _ _ h => h) (by rfl) (fun w_ hw => by first | rfl | (go_simp; done) | (go_simp; rfl) | (go_simp; omega)) hHeld ?_
                simp only [Act.put, List.setIfInBounds_toArray, List.set_cons_zero, List.set_cons_succ]
                refine Cu.takeH 5 (some 82) (.agg (tabv (bv hsh) 32)) rfl rfl (by kernel_rfl) (by kernel_rfl) (by kernel_rfl) (fun _ _ _ h => h) (by rfl) (fun w_ hw => run_load_at w_ 23 _ rfl (w2.heap.size) 5 (by rfl) _ 32 _ (hhs.out _ hw.m) Tryz.underlying23 rfl info26) hHeld ?_
                simp only [Act.put, List.setIfInBounds_toArray, List.set_cons_zero, List.set_cons_succ]
                refine wpAnyH_ready (rs := [3]) (by kernel_rfl) (by simp) (AllReadyH.cons rfl (fun K hK => ?_) AllReadyH.nil)
                rw [if_pos (by rfl)]
                go_simp
                refine (HC.out _ hHeld.b).mono ?_
                rintro e yc ⟨⟨v, rfl, hO⟩, hbq⟩
                obtain ⟨xa, xc, hv, _⟩ := hO.upds
                subst hv
                try go_wp2_with fail
                refine hK.out _ _ (hHeld.step hbq) (fun hH => ?_)
                have HO := hide hO
                have HZ := hide (show w3.heap.size < wd2.heap.size from by obtain ⟨f8, h8⟩ := hHeld.r; exact h8.lt)
                have HZ0 := hide hHeld.b.size
                clear hK K hHeld hO
                have hHeld := hH
                clear hH
                refine Cu.takeH 6 (some 83) (.agg (tabv (cameR ix ⟨xa, OD.length, xc⟩ hsh).v 138)) rfl rfl (by kernel_rfl) (by kernel_rfl) (by kernel_rfl) (fun _ _ _ h => h) (by rfl) (fun w_ hw => run_buildG w_ 42 _ rfl [(0, .int .i64 3), (3, .int .i64 ix), (2, .slice xa OD.length xc), (5, .agg (tabv (bv hsh) 32))] (by first | rfl | (simp [Act.eval, Act.put]; done)) _ (builtRC _ _ _ _ _)) hHeld ?_
                simp only [Act.put, List.setIfInBounds_toArray, List.set_cons_zero, List.set_cons_succ]
                refine wpAnyH_ready (rs := [7]) (by kernel_rfl) (by simp) (AllReadyH.cons rfl (fun K hK => ?_) AllReadyH.nil)
                rw [if_pos (by rfl)]
                obtain ⟨f9, hf9⟩ := hHeld.r
                refine wp_store_part 42 _ _ rfl rfl w3.heap.size 0 (Rc.v (cameR ix ⟨xa, OD.length, xc⟩ hsh)) 138 rfl rfl 42 _ 138 hf9 (by omega) infoRc (fun i _ => oneRc _ i) (Rc.v (cameR ix ⟨xa, OD.length, xc⟩ hsh)) (fun i hi => by unfold splice; rw [if_pos (by omega), Nat.sub_zero]) ?_
                obtain ⟨hS9, hM9⟩ := hHeld.store (cameR ix ⟨xa, OD.length, xc⟩ hsh) N1 LB_r
                refine hK.out _ _ hS9 (fun hH => ?_)
                clear hK hHeld hf9
                have hHeld := hH
                clear hH
                have HO2 := hide (show OwnU wd2.heap.size (World.setRow yc w3.heap.size (tabv (Rc.v (cameR ix ⟨xa, OD.length, xc⟩ hsh)) 138)) (Sl.v ⟨xa, OD.length, xc⟩) OD from HO.out.same fun k hk => setRow_other _ _ _ _ (by have h1 := (HO.out.lt k hk).1; have h2 := HZ.out; omega))
                generalize hwz : World.setRow _ w3.heap.size (tabv (Rc.v (cameR ix ⟨xa, OD.length, xc⟩ hsh)) 138) = wz at hS9 hM9 HO2 hHeld ⊢
                have RF := hide hM9
                have BF := hide hS9.b
                clear hwz hM9 hS9 hwd
                refine Cu.takeH 8 (some 7) (.int .i64 0) rfl rfl (by kernel_rfl) (by kernel_rfl) (by kernel_rfl) (fun _ _ _ h => h) (by rfl) (fun w_ hw => by first | rfl | (go_simp; done) | (go_simp; rfl) | (go_simp; omega)) hHeld ?_
                simp only [Act.put, List.setIfInBounds_toArray, List.set_cons_zero, List.set_cons_succ]
                refine ⟨by kernel_rfl, ?_⟩
                refine NoPanic.normal ?_
                go_wp2
                (try simp only [Exit.inBlock, Exit.then])
                exact bodyPost_ret (resRc _ (w3.heap.size) _ _ (.int .i64 0) 6 7 RF.out rfl rfl _ rfl) rfl ⟨_, _, rfl, PG3.out _ ⟨xa, OD.length, xc⟩ (HO2.out.mono (by have h1 := HZ0.out; exact h1)), BF.out⟩
end Go.Proofs.YtmmcoedgoekhgaaGreatDoor
