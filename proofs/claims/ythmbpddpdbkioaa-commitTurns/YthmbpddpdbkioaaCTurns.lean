/-
  CommitTurns: the walk (printed by gen_c19.py).
-/
import Derived.Test.YthmbpddpdbkioaaCRow
namespace Go.Proofs.Ythmbpddpdbkioaa
open Go.RowKit S
set_option linter.unusedVariables false
set_option linter.unusedSimpArgs false
theorem OwnP.ps {B : Nat} {w : World} {ad : Option Addr} {n c : Nat} {l : List Pen} (h : OwnP B w (.slice ad n c) l) : Pens w ad l := by
  obtain ⟨a, c', e, hP, _⟩ := h.pens
  simp only [Value.slice.injEq] at e
  obtain ⟨rfl, _, _⟩ := e
  exact hP
theorem sum_anyI (X Y : Int) (ad : Option Addr) (n cap : Nat) (l : List Pen) (hn : l.length = n) (hz : n ≤ 966) (hx : 0 ≤ X ∧ X ≤ 1152921504606846976) (hy : 0 ≤ Y ∧ Y ≤ 1152921504606846976) (hl : ∀ p ∈ l, 0 ≤ p.amt ∧ p.amt ≤ 1152921504606846976) (q1 q2 : Nat) (h1 : (X.toNat + Y.toNat + amN l) / 2305843009213693952 = q1) (h2 : (X.toNat + Y.toNat + amN l) % 2305843009213693952 = q2) (w : World) (hS : Pens w ad l) : Calls Try.prog 7 #[.agg (tabv (ledv X Y (.slice ad n cap)) 3)] w fun e w' => e = .returned (.tuple #[.int .i64 (q1 : Int), .int .i64 (q2 : Int)]) ∧ Below w.heap.size w w' := by
  have h := sum_any X.toNat Y.toNat ad n cap l hn hz (by omega) (by omega) hl w hS
  rw [Int.toNat_of_nonneg hx.1, Int.toNat_of_nonneg hy.1] at h
  unfold SmPost at h
  rw [h1, h2] at h
  exact h
section
variable {P : Program} {ops : Array Oper} {rest : List Oper} {o : Oper} {a : Act} {w w' : World} {Q : Exit → Act → World → Prop}
theorem wpW_app {v : Value} (hw : Region.wanted o (yielded ops a.tmps) = true) (s x : Operand) (tys : Array TypeId) (ho : o.op = .call { callee := .builtin .append, args := #[s, x], argTypes := tys }) (S X : Value) (hs : a.eval s = S) (hx : a.eval x = X) (t : TypeId) (ht : o.type = t) (h : (Builtin.append_ tys t #[S, X]).run P w = .ok v w') (k : wpList P ops Q rest (a.put o.dst v) w') : wpList P ops Q (o :: rest) a w := by
  subst ht
  refine wpList_step fun K hK => ?_
  rw [if_pos hw]
  exact wpRun (by simp [execOp, ho, hs, hx, resolve, invoke, builtin, h, Result.andThen]) (hK _ _ k)
end
/-- CommitTurns' variables: a, t, s, back. -/
structure TV (w : World) (g0 ga gt gs gb : Nat) (X Y : Int) (ada adt ads adb : Option Addr) (na ca ct cs cb : Nat) (M : List Pen) (wr : World) : Prop where
  ra : Has wr ga 24 (ledv X Y (.slice ada na ca)) 3
  oa : OwnP (g0 + 1) wr (.slice ada na ca) M
  rt : Has wr gt 24 (ledv Y X (.slice adt na ct)) 3
  ot : OwnP (ga + 1) wr (.slice adt na ct) (turnP M)
  rs : Has wr gs 24 (ledv Y X (.slice ads na cs)) 3
  os : OwnP (gt + 1) wr (.slice ads na cs) (turnP M)
  rb : Has wr gb 24 (ledv X Y (.slice adb na cb)) 3
  ob : OwnP (gs + 1) wr (.slice adb na cb) M
  bel : Below g0 w wr
  ua : ∀ k, (Value.slice ada na ca).ownBlock = some k → k < ga
  ut : ∀ k, (Value.slice adt na ct).ownBlock = some k → k < gt
  us : ∀ k, (Value.slice ads na cs).ownBlock = some k → k < gs
  ub : ∀ k, (Value.slice adb na cb).ownBlock = some k → k < gb
  ord : g0 < ga ∧ ga < gt ∧ gt < gs ∧ gs < gb
theorem TV.below {w : World} {g0 ga gt gs gb : Nat} {X Y : Int} {ada adt ads adb : Option Addr} {na ca ct cs cb : Nat} {M : List Pen} {wr w' : World} (k : TV w g0 ga gt gs gb X Y ada adt ads adb na ca ct cs cb M wr) (hb : Below wr.heap.size wr w') : TV w g0 ga gt gs gb X Y ada adt ads adb na ca ct cs cb M w' :=
  ⟨k.ra.below hb k.ra.lt, k.oa.below hb, k.rt.below hb k.rt.lt, k.ot.below hb, k.rs.below hb k.rs.lt, k.os.below hb, k.rb.below hb k.rb.lt, k.ob.below hb, k.bel.trans (hb.mono (by have := k.ra.lt; have := k.ord; omega)), k.ua, k.ut, k.us, k.ub, k.ord⟩
set_option maxRecDepth 100000 in
set_option maxHeartbeats 16000000 in
theorem turns_walk (x y : Int) (ad : Option Addr) (n cap : Nat) (l : List Pen) (hn : l.length = n) (hz : n ≤ 3910000000000) (w : World) (hS : Pens w ad l) : Calls Try.prog 3 #[.agg (tabv (ledv x y (.slice ad n cap)) 3)] w fun e w' => e = .returned (.bool true) ∧ Below w.heap.size w w' := by
  obtain ⟨w1, hW1⟩ : ∃ wX, w.alloc (.cells (tabv (ledv x y (.slice ad n cap)) 3) 24) = wX := ⟨_, rfl⟩
  have r1 : Has w1 w.heap.size 24 (ledv x y (.slice ad n cap)) 3 := by rw [← hW1]; exact Has.new w 24 (ledv x y (.slice ad n cap)) 3 _ rfl
  have b1 : Below w.heap.size w w1 := by rw [← hW1]; exact (Below.refl w.heap.size w).alloc (Nat.le_refl _) _
  have RB := hide r1
  have HP := hide (hS.below b1)
  have HN := hide hn
  have HZ := hide hz
  have B1 := hide b1
  clear r1 b1 hS hn hz
  go_enter Try.func3, Try.ntmps3
  go_upto_region 1 with fail
  generalize hg0 : w.heap.size = g0 at RB B1 ⊢
  clear hW1
  have L0 : Hid (g0 < w1.heap.size) := RB.out.lt
  go_wp2_with (first | refine wpW_load_at 24 _ rfl (g0) (0) (by rfl) (by rfl) _ 3 _ (RB.out.at_ 0 (by omega) (fun i hi => by rw [Nat.zero_add])) Try.underlying24 rfl infoL ?_ | fail)
  refine (made_any x y ad n cap l HN.out _ HP.out HZ.out).mono ?_
  rintro e wq ⟨X, Y, vq, M, rfl, hO, hs, hr, hm, hbq⟩
  obtain ⟨na, hna⟩ : ∃ n, M.length = n := ⟨_, rfl⟩
  obtain ⟨ada, ca, hv, hP, hU, _, _⟩ := hO.pens
  rw [hna] at hv
  subst hv
  obtain ⟨wp1, w2, hWp, rp, hWs, rq, bq⟩ := newL wq X Y (.slice ada na ca)
  have RP := hide rp
  have Oga := hide (hO.below bq)
  have Rga := hide rq
  have Uga : Hid (∀ k, (Value.slice ada na ca).ownBlock = some k → k < wq.heap.size) := fun k hk => (hO.lt k hk).2
  have bt : Below w1.heap.size w1 w2 := hbq.trans (bq.mono hbq.size)
  have Lga : Hid (w1.heap.size ≤ wq.heap.size) := hbq.size
  have HNA := hide hna
  have HSD := hide hs
  have HM : Hid (na ≤ 86) := by show _ ≤ _; rw [← hna]; exact hm
  have B2 := hide (B1.out.trans (bt.mono (Nat.le_of_lt L0.out)))
  have HTL : Hid ((turnP M).length = na) := by show _ = _; rw [turnP_len]; exact hna
  have HTT : Hid (turnP (turnP M) = M) := turn_turn (good_pw hs.2.1)
  clear hs hr hm hna B1 RB HP HN HZ
  clear hO hP hU hbq rp rq bq bt
  go_upto_region 2 with (first | refine wpList_storeL rfl _ _ rfl rfl wq.heap.size X Y (.slice ada na ca) rfl rfl rfl _ RP.out ?_)
  try rw [hWs]
  generalize hgq : wq.heap.size = ga at Rga Uga Lga ⊢
  clear hWp hWs RP hgq
  go_wp2_with (first | refine wpW_load_at 24 _ rfl (ga) (0) (by rfl) (by rfl) _ 3 _ (Rga.out.at_ 0 (by omega) (fun i hi => by rw [Nat.zero_add])) Try.underlying24 rfl infoL ?_ | fail)
  obtain ⟨adX, cX, hvX, hPX, _, _, _⟩ := Oga.out.pens
  rw [HNA.out] at hvX
  obtain ⟨rfl, _, rfl⟩ : ada = adX ∧ na = na ∧ ca = cX := by simpa using hvX
  clear hvX
  refine (turn_any X Y ada na ca M HNA.out (by have := HM.out; omega) _ hPX).mono ?_
  rintro e wq ⟨⟨vq, rfl, hO⟩, hbq⟩
  obtain ⟨adt, ct, hv, hP, hU, _, _⟩ := hO.pens
  rw [HTL.out] at hv
  subst hv
  obtain ⟨wp1, w3, hWp, rp, hWs, rq, bq⟩ := newL wq Y X (.slice adt na ct)
  have RP := hide rp
  have Ogt := hide (hO.below bq)
  have Rgt := hide rq
  have Ugt : Hid (∀ k, (Value.slice adt na ct).ownBlock = some k → k < wq.heap.size) := fun k hk => (hO.lt k hk).2
  have bt : Below w2.heap.size w2 w3 := hbq.trans (bq.mono hbq.size)
  have Lgt : Hid (w2.heap.size ≤ wq.heap.size) := hbq.size
  have B3 := hide (B2.out.trans (bt.mono (by have := Rga.out.lt; have := Lga.out; have := L0.out; omega)))
  clear B2
  have Aga : Hid (ga < w2.heap.size) := Rga.out.lt
  have Rxga := hide (Rga.out.below bt Rga.out.lt)
  have Oxga := hide (Oga.out.below bt)
  clear Rga Oga
  have Rga := Rxga
  have Oga := Oxga
  clear Rxga Oxga
  clear hPX
  clear hO hP hU hbq rp rq bq bt
  go_upto_region 3 with (first | refine wpList_storeL rfl _ _ rfl rfl wq.heap.size Y X (.slice adt na ct) rfl rfl rfl _ RP.out ?_)
  try rw [hWs]
  generalize hgq : wq.heap.size = gt at Rgt Ugt Lgt ⊢
  clear hWp hWs RP hgq
  go_wp2_with (first | refine wpW_load_at 24 _ rfl (ga) (0) (by rfl) (by rfl) _ 3 _ (Rga.out.at_ 0 (by omega) (fun i hi => by rw [Nat.zero_add])) Try.underlying24 rfl infoL ?_ | fail)
  obtain ⟨adX, cX, hvX, hPX, _, _, _⟩ := Oga.out.pens
  rw [HNA.out] at hvX
  obtain ⟨rfl, _, rfl⟩ : ada = adX ∧ na = na ∧ ca = cX := by simpa using hvX
  clear hvX
  refine (turn_any X Y ada na ca M HNA.out (by have := HM.out; omega) _ hPX).mono ?_
  rintro e wq ⟨⟨vq, rfl, hO⟩, hbq⟩
  obtain ⟨ads, cs, hv, hP, hU, _, _⟩ := hO.pens
  rw [HTL.out] at hv
  subst hv
  obtain ⟨wp1, w4, hWp, rp, hWs, rq, bq⟩ := newL wq Y X (.slice ads na cs)
  have RP := hide rp
  have Ogs := hide (hO.below bq)
  have Rgs := hide rq
  have Ugs : Hid (∀ k, (Value.slice ads na cs).ownBlock = some k → k < wq.heap.size) := fun k hk => (hO.lt k hk).2
  have bt : Below w3.heap.size w3 w4 := hbq.trans (bq.mono hbq.size)
  have Lgs : Hid (w3.heap.size ≤ wq.heap.size) := hbq.size
  have B4 := hide (B3.out.trans (bt.mono (by have := Rga.out.lt; have := Lga.out; have := L0.out; omega)))
  clear B3
  have Agt : Hid (gt < w3.heap.size) := Rgt.out.lt
  have Rxga := hide (Rga.out.below bt Rga.out.lt)
  have Oxga := hide (Oga.out.below bt)
  clear Rga Oga
  have Rga := Rxga
  have Oga := Oxga
  clear Rxga Oxga
  have Rxgt := hide (Rgt.out.below bt Rgt.out.lt)
  have Oxgt := hide (Ogt.out.below bt)
  clear Rgt Ogt
  have Rgt := Rxgt
  have Ogt := Oxgt
  clear Rxgt Oxgt
  clear hPX
  clear hO hP hU hbq rp rq bq bt
  go_upto_region 4 with (first | refine wpList_storeL rfl _ _ rfl rfl wq.heap.size Y X (.slice ads na cs) rfl rfl rfl _ RP.out ?_)
  try rw [hWs]
  generalize hgq : wq.heap.size = gs at Rgs Ugs Lgs ⊢
  clear hWp hWs RP hgq
  go_wp2_with (first | refine wpW_load_at 24 _ rfl (gt) (0) (by rfl) (by rfl) _ 3 _ (Rgt.out.at_ 0 (by omega) (fun i hi => by rw [Nat.zero_add])) Try.underlying24 rfl infoL ?_ | fail)
  obtain ⟨adX, cX, hvX, hPX, _, _, _⟩ := Ogt.out.pens
  rw [HTL.out] at hvX
  obtain ⟨rfl, _, rfl⟩ : adt = adX ∧ na = na ∧ ct = cX := by simpa using hvX
  clear hvX
  refine (turn_any Y X adt na ct (turnP M) HTL.out (by have := HM.out; omega) _ hPX).mono ?_
  rintro e wq ⟨⟨vq, rfl, hO⟩, hbq⟩
  rw [HTT.out] at hO
  obtain ⟨adb, cb, hv, hP, hU, _, _⟩ := hO.pens
  rw [HNA.out] at hv
  subst hv
  obtain ⟨wp1, w5, hWp, rp, hWs, rq, bq⟩ := newL wq X Y (.slice adb na cb)
  have RP := hide rp
  have Ogb := hide (hO.below bq)
  have Rgb := hide rq
  have Ugb : Hid (∀ k, (Value.slice adb na cb).ownBlock = some k → k < wq.heap.size) := fun k hk => (hO.lt k hk).2
  have bt : Below w4.heap.size w4 w5 := hbq.trans (bq.mono hbq.size)
  have Lgb : Hid (w4.heap.size ≤ wq.heap.size) := hbq.size
  have B5 := hide (B4.out.trans (bt.mono (by have := Rga.out.lt; have := Lga.out; have := L0.out; omega)))
  clear B4
  have Ags : Hid (gs < w4.heap.size) := Rgs.out.lt
  have Rxga := hide (Rga.out.below bt Rga.out.lt)
  have Oxga := hide (Oga.out.below bt)
  clear Rga Oga
  have Rga := Rxga
  have Oga := Oxga
  clear Rxga Oxga
  have Rxgt := hide (Rgt.out.below bt Rgt.out.lt)
  have Oxgt := hide (Ogt.out.below bt)
  clear Rgt Ogt
  have Rgt := Rxgt
  have Ogt := Oxgt
  clear Rxgt Oxgt
  have Rxgs := hide (Rgs.out.below bt Rgs.out.lt)
  have Oxgs := hide (Ogs.out.below bt)
  clear Rgs Ogs
  have Rgs := Rxgs
  have Ogs := Oxgs
  clear Rxgs Oxgs
  clear hPX
  clear hO hP hU hbq rp rq bq bt
  go_upto_region 5 with (first | refine wpList_storeL rfl _ _ rfl rfl wq.heap.size X Y (.slice adb na cb) rfl rfl rfl _ RP.out ?_)
  try rw [hWs]
  generalize hgq : wq.heap.size = gb at Rgb Ugb Lgb ⊢
  clear hWp hWs RP hgq
  have KT5 : Hid (TV w g0 ga gt gs gb X Y ada adt ads adb na ca ct cs cb M w5) := ⟨Rga.out, Oga.out.mono (by have := L0.out; omega), Rgt.out, Ogt.out.mono (by have := Aga.out; omega), Rgs.out, Ogs.out.mono (by have := Agt.out; omega), Rgb.out, Ogb.out.mono (by have := Ags.out; omega), B5.out, Uga.out, Ugt.out, Ugs.out, Ugb.out, by have := L0.out; have := Lga.out; have := Aga.out; have := Lgt.out; have := Agt.out; have := Lgs.out; have := Ags.out; have := Lgb.out; omega⟩
  clear Rga Oga Rgt Ogt Rgs Ogs Rgb Ogb B5 Uga Ugt Ugs Ugb L0 Lga Aga Lgt Agt Lgs Ags Lgb
  obtain ⟨q1, hq1⟩ : ∃ z, (X.toNat + Y.toNat + amN M) / 2305843009213693952 = z := ⟨_, rfl⟩
  obtain ⟨q2, hq2⟩ : ∃ z, (X.toNat + Y.toNat + amN M) % 2305843009213693952 = z := ⟨_, rfl⟩
  have HQ : Hid ((X.toNat + Y.toNat + amN M) / 2305843009213693952 = q1 ∧ (X.toNat + Y.toNat + amN M) % 2305843009213693952 = q2) := ⟨hq1, hq2⟩
  have HQT : Hid ((Y.toNat + X.toNat + amN (turnP M)) / 2305843009213693952 = q1 ∧ (Y.toNat + X.toNat + amN (turnP M)) % 2305843009213693952 = q2) := by
    show _ ∧ _
    rw [amN_turn (good_pw HSD.out.2.1), Nat.add_comm Y.toNat X.toNat]
    exact ⟨hq1, hq2⟩
  clear hq1 hq2
  go_wp2_with (first | refine wpW_build (by rfl) 30 #[] rfl [] (by simp) _ builtH0 ?_ | refine wpW_load_at 24 _ rfl (gt) (0) (by rfl) (by rfl) _ 3 _ (KT5.out.rt.at_ 0 (by omega) (fun i hi => by rw [Nat.zero_add])) Try.underlying24 rfl infoL ?_ | fail)
  refine (text_any 0 0 (fun _ => 0) Y X adt na ct (turnP M) HTL.out (by have := HM.out; omega) _ KT5.out.ot.ps).mono ?_
  rintro e w6 ⟨T6, cX, rfl, hTA, hb6⟩
  obtain ⟨_, hcX⟩ := hTA.good (by unfold Arg; omega) HSD.out.turn
  subst hcX
  have KT6 := hide (KT5.out.below hb6)
  clear hTA hb6 KT5
  go_wp2_with (first | refine wpW_load_at 24 _ rfl (ga) (0) (by rfl) (by rfl) _ 3 _ (KT6.out.ra.at_ 0 (by omega) (fun i hi => by rw [Nat.zero_add])) Try.underlying24 rfl infoL ?_ | fail)
  refine (sum_anyI X Y ada na ca M HNA.out (by have := HM.out; omega) (amB_rng HSD.out.1.1) (amB_rng HSD.out.1.2) HSD.out.amts q1 q2 HQ.out.1 HQ.out.2 _ KT6.out.oa.ps).mono ?_
  rintro e w7 ⟨rfl, hb7⟩
  have KT7 := hide (KT6.out.below hb7)
  clear hb7 KT6
  go_wp2_with (first | refine wpW_load_at 24 _ rfl (gt) (0) (by rfl) (by rfl) _ 3 _ (KT7.out.rt.at_ 0 (by omega) (fun i hi => by rw [Nat.zero_add])) Try.underlying24 rfl infoL ?_ | fail)
  refine (sum_anyI Y X adt na ct (turnP M) HTL.out (by have := HM.out; omega) (amB_rng HSD.out.1.2) (amB_rng HSD.out.1.1) HSD.out.turn.amts q1 q2 HQT.out.1 HQT.out.2 _ KT7.out.ot.ps).mono ?_
  rintro e w8 ⟨rfl, hb8⟩
  have KT8 := hide (KT7.out.below hb8)
  clear hb8 KT7
  have a0 : w8.cell? ⟨ga, 0, none⟩ = some (.int .i64 X) := KT8.out.ra.cell 0 (by omega)
  have a1 : w8.cell? ⟨ga, 1, none⟩ = some (.int .i64 Y) := KT8.out.ra.cell 1 (by omega)
  have t0 : w8.cell? ⟨gt, 0, none⟩ = some (.int .i64 Y) := KT8.out.rt.cell 0 (by omega)
  have t1 : w8.cell? ⟨gt, 1, none⟩ = some (.int .i64 X) := KT8.out.rt.cell 1 (by omega)
  go_wp2_with (first | refine wpW_load_at 24 _ rfl (gb) (0) (by rfl) (by rfl) _ 3 _ (KT8.out.rb.at_ 0 (by omega) (fun i hi => by rw [Nat.zero_add])) Try.underlying24 rfl infoL ?_ | refine wpW_load_at 24 _ rfl (ga) (0) (by rfl) (by rfl) _ 3 _ (KT8.out.ra.at_ 0 (by omega) (fun i hi => by rw [Nat.zero_add])) Try.underlying24 rfl infoL ?_ | fail)
  refine (same_any X Y X Y adb ada na cb na ca M M HNA.out HNA.out (by have := HM.out; omega) (by have := HM.out; omega) _ KT8.out.ob.ps KT8.out.oa.ps).mono ?_
  rintro e w9 ⟨R, rfl, hR, hb9⟩
  obtain rfl : R = true := hR.2 ⟨rfl, rfl, eqL_refl _⟩
  have KT9 := hide (KT8.out.below hb9)
  clear hR hb9 KT8 a0 a1 t0 t1
  have a2 : w9.cell? ⟨ga, 2, none⟩ = some (.slice ada na ca) := KT9.out.ra.cell 2 (by omega)
  have t2 : w9.cell? ⟨gt, 2, none⟩ = some (.slice adt na ct) := KT9.out.rt.cell 2 (by omega)
  go_wp2_with fail
  refine (first_any _).mono ?_
  rintro e w10 ⟨rfl, hb10⟩
  have KT10 := hide (KT9.out.below hb10)
  clear hb10 KT9 a2 t2
  go_upto_region 11 with fail
  have s2 : w10.cell? ⟨gs, 2, none⟩ = some (.slice ads na cs) := KT10.out.rs.cell 2 (by omega)
  obtain ⟨vk, w11, rA, oK, bK⟩ := run_app_allP w10 ads cs (turnP M) KT10.out.os.ps (by rw [HTL.out]; have := HM.out; omega)
  rw [HTL.out] at rA
  obtain ⟨adk, ck, hvk, _, _, _, _⟩ := oK.pens
  rw [HTL.out] at hvk
  subst hvk
  have k11 := KT10.out.below bK
  have hord := KT10.out.ord
  have hgb := KT10.out.rb.lt
  obtain ⟨gk, hgk⟩ : ∃ gk, gk + 1 = w10.heap.size := ⟨w10.heap.size - 1, by omega⟩
  have OFF : Hid (Off g0 ga gt gs gb gk ada ads adb na ca cs cb) := ⟨by omega, KT10.out.ua⟩
  have UT : Hid (∀ i, (Value.slice adt na ct).ownBlock = some i → ga < i ∧ i < gt) := fun i hi => ⟨(KT10.out.ot.lt i hi).1, KT10.out.ut i hi⟩
  have KL : Hid (LV w g0 ga gt gs gb gk X Y ada adt ads adb adk na na ca ct cs cb ck M (turnP M) w11) := ⟨k11.ra, k11.oa, k11.rt, k11.ot, k11.rs, k11.os, k11.rb, k11.ob, by rw [hgk]; exact oK, k11.bel, by have := k11.ra.lt; omega⟩
  clear k11 oK bK hord hgb hgk KT10 HQ HQT
  go_upto_region 12 with (first | refine wpW_app (by rfl) (.tmp 85) (.tmp 87) #[22, 22] rfl (.slice none 0 0) (.slice ads na cs) (by rfl) (by rfl) 22 rfl rA ?_ | fail)
  clear s2 rA
  go_wp2
  go_loopw [14] (fun ix wr => ∃ j : Nat, j ≤ na ∧ ix = .int .i64 (j : Int) ∧ Hid (LV w g0 ga gt gs gb gk X Y ada adt ads adb adk na na ca ct cs cb ck M (List.replicate j m1 ++ (turnP M).drop j) wr)) (fun ix _ => na - (intOf ix).toNat)
  case atStart => exact ⟨0, Nat.zero_le _, rfl, KL.out⟩
  case round =>
    obtain ⟨j, hj, rfl, KW⟩ := hrel
    clear KL
    have t2 : wr.cell? ⟨gt, 2, none⟩ = some (.slice adt na ct) := KW.out.rt.cell 2 (by omega)
    by_cases hlt : j < na
    · have hd : decide ((j : Int) < (na : Int)) = true := decide_eq_true (by omega)
      have hd2 : decide (j < na) = true := decide_eq_true hlt
      have hp1 : (0 : Int) ≤ (j : Int) := by omega
      have hp2 : (j : Int) < (na : Int) := by omega
      have zj : IntKind.i64.wrap ((j : Int) + 1) = (j : Int) + 1 := by rw [IntKind.wrap_i64]; have := HM.out; omega
      have hlen : (List.replicate j m1 ++ (turnP M).drop j).length = na := by rw [List.length_append, List.length_replicate, List.length_drop, HTL.out]; omega
      obtain ⟨q, c', hv, _, _, _⟩ := KW.out.ot.some_ (by rw [hlen]; omega)
      rw [hlen] at hv
      obtain ⟨rfl, _, rfl⟩ : adt = some ⟨q, 0, none⟩ ∧ na = na ∧ ct = c' := by simpa using hv
      have HQ : Hid (ga < q ∧ q < gt) := UT.out q rfl
      have HLEN := hide hlen
      have HJ := hide hlt
      clear hv hlen hlt hj
      go_wp2_with (first | refine wpW_build (by rfl) 36 #[(1, .const (.int .i64 (-1)))] rfl [(1, .int .i64 (-1))] (by first | rfl | (simp [Act.eval, Act.put]; done)) _ built_m1 ?_ | refine wpList_storeRowP rfl _ _ rfl rfl q na ct j (ga + 1) m1 _ (by first | rfl | (simp [Act.eval]; done)) rfl KW.out.ot (by rw [HLEN.out]; exact HJ.out) (fun wn ow kw => ?_))
      rw [rep_set (by rw [HTL.out]; exact HJ.out)] at ow
      have KN := hide (KW.out.wrote OFF.out HQ.out kw ow)
      clear KW ow kw t2
      go_wp2
      go_roundw
      case rel => exact ⟨j + 1, by have := HJ.out; omega, by go_num, KN.out⟩
      case measure => have := HJ.out; simp [intOf]; omega
    · have hjn : j = na := by omega
      have hd : decide ((j : Int) < (na : Int)) = false := decide_eq_false (by omega)
      have hd2 : decide (j < na) = false := decide_eq_false hlt
      have KE : Hid (LV w g0 ga gt gs gb gk X Y ada adt ads adb adk na na ca ct cs cb ck M (List.replicate na m1) wr) := by
        have := KW.out
        rw [hjn, List.drop_eq_nil_of_le (by rw [HTL.out]; exact Nat.le_refl _), List.append_nil] at this
        exact this
      obtain ⟨v', wq1, wq2, rS, rA, oA, gr, bA⟩ := run_appPW wr (ga + 1) (.slice adt na ct) (List.replicate na m1) m2 KE.out.ot (by rw [List.length_replicate]; have := HM.out; omega) KE.out.ra.lt
      obtain ⟨ad2, c2, hv2, _, _, _, _⟩ := oA.pens
      rw [List.length_append, List.length_replicate, List.length_singleton] at hv2
      subst hv2
      have hq2 : Has wq2 gt 24 (ledv Y X (.slice adt na ct)) 3 := KE.out.rt.same (gr gt KE.out.rt.lt (fun e => by have := UT.out gt e; omega))
      have cg : wq2.cell? ⟨gt, 2, none⟩ = some (.slice adt na ct) := hq2.cell 2 (by omega)
      have fg := hq2.frozen 2
      have KA := hide (KE.out.app OFF.out UT.out oA gr bA)
      have RS := hide rS
      have RA := hide rA
      obtain ⟨wz, hwz⟩ : ∃ z, World.setCell wq2 ⟨gt, 2, none⟩ (.slice ad2 (na + 1) c2) = z := ⟨_, rfl⟩
      have KZ : Hid (LV w g0 ga gt gs gb gk X Y ada ad2 ads adb adk na (na + 1) ca c2 cs cb ck M (List.replicate na m1 ++ [m2]) wz) := by rw [← hwz]; exact KA.out
      clear hq2 oA gr bA KW KE hjn hlt hj rS rA KA
      go_upto_region 16 with fail
      go_wp2_with (first | refine wpW_build (by rfl) 36 #[(1, .const (.int .i64 (-2)))] rfl [(1, .int .i64 (-2))] (by first | rfl | (simp [Act.eval, Act.put]; done)) _ built_m2 ?_ | refine wpList_slice1 rfl 22 _ rfl (.agg (tabv m2.v 35)) rfl RS.out ?_ | (at_builtin; refine wpList_app rfl _ _ _ rfl RA.out ?_))
      clear hwz cg fg RS RA t2 hd hd2
      go_loopw [15] (fun ix wr => ∃ i : Nat, i ≤ na ∧ ix = .int .i64 (i : Int) ∧ Hid (LV w g0 ga gt gs gb gk X Y ada ad2 ads adb adk na (na + 1) ca c2 cs cb ck M (List.replicate na m1 ++ [m2]) wr)) (fun ix _ => na - (intOf ix).toNat)
      case atStart => exact ⟨0, Nat.zero_le _, rfl, KZ.out⟩
      case round =>
        obtain ⟨i, hi, rfl, KW⟩ := hrel
        clear KZ
        by_cases hlt : i < na
        · have hd : decide ((i : Int) < (na : Int)) = true := decide_eq_true (by omega)
          have hd2 : decide (i < na) = true := decide_eq_true hlt
          have hk0 : (0 : Int) ≤ (i : Int) := by omega
          have hk1 : (i : Int) < (na : Int) := by omega
          have hk2 : (i : Int) < ((na + 1 : Nat) : Int) := by omega
          have hk3 : (i : Int) < (na : Int) + 1 := by omega
          have zi : IntKind.i64.wrap ((i : Int) + 1) = (i : Int) + 1 := by rw [IntKind.wrap_i64]; have := HM.out; omega
          obtain ⟨p, hp⟩ : ∃ p, (turnP M)[i]? = some p := ⟨_, List.getElem?_eq_getElem (by rw [HTL.out]; exact hlt)⟩
          have cLgs : wr.cell? ⟨gs, 2, none⟩ = some (.slice ads na cs) := KW.out.rs.cell 2 (by omega)
          have cLgt : wr.cell? ⟨gt, 2, none⟩ = some (.slice ad2 (na + 1) c2) := KW.out.rt.cell 2 (by omega)
          have g1 := KW.out.os.ps.get i p hp
          have g2 := KW.out.ok.ps.get i p hp
          have g3 := KW.out.ot.ps.get i m1 (by rw [List.getElem?_append_left (by rw [List.length_replicate]; exact hlt), List.getElem?_replicate_of_lt hlt])
          obtain ⟨b1, o1, e1, hb1, hA1⟩ := g1
          obtain ⟨b2, o2, e2, hb2, hA2⟩ := g2
          obtain ⟨b3, o3, e3, hb3, hA3⟩ := g3
          subst e1 e2 e3
          have HA1 := hide hA1
          have HA2 := hide hA2
          have HA3 := hide hA3
          have HB1 := hide hb1
          have HB2 := hide hb2
          have HB3 := hide hb3
          have HJ := hide hlt
          clear hp hA1 hA2 hA3 hb1 hb2 hb3
          go_wp2
          refine wp_region_noPanic ?_
          refine wp_region_held_drew (S := fun wx => Below wr.heap.size wr wx) (by kernel_rfl) ((Below.refl _ _).drew) (fun hHeld => ?_)
          refine takeH 0 (some 113) (.pointer (some ⟨gs, 2, none⟩)) rfl rfl (by kernel_rfl) (by kernel_rfl) (by kernel_rfl) (fun _ _ _ h => h) (by rfl) (fun w hw => by first | rfl | (go_simp; done) | (go_simp; rfl) | (go_simp; omega)) hHeld ?_
          simp only [Act.put, List.setIfInBounds_toArray, List.set_cons_zero, List.set_cons_succ]
          refine takeH 1 (some 114) (.slice (some ⟨b1, o1, none⟩) na cs) rfl rfl (by kernel_rfl) (by kernel_rfl) (by kernel_rfl) (fun _ _ _ h => h) (by rfl) (fun w hw => by have c : w.cell? ⟨gs, 2, none⟩ = some (.slice (some ⟨b1, o1, none⟩) na cs) := (hw.cell (World.block_lt_of_cell? _ _ cLgs)).trans cLgs; first | (go_simp; done) | (go_simp; rfl)) hHeld ?_
          simp only [Act.put, List.setIfInBounds_toArray, List.set_cons_zero, List.set_cons_succ]
          refine takeH 2 (some 115) (.int .i64 (i : Int)) rfl rfl (by kernel_rfl) (by kernel_rfl) (by kernel_rfl) (fun _ _ _ h => h) (by rfl) (fun w hw => by first | rfl | (go_simp; done) | (go_simp; rfl) | (go_simp; omega)) hHeld ?_
          simp only [Act.put, List.setIfInBounds_toArray, List.set_cons_zero, List.set_cons_succ]
          refine takeH 3 (some 116) (.pointer (some ⟨b1, o1 + i * 35, none⟩)) rfl rfl (by kernel_rfl) (by kernel_rfl) (by kernel_rfl) (fun _ _ _ h => h) (by rfl) (fun w hw => by have p0 := hk0; have p1 := hk1; have p2 := hk2; have p3 := hk3; first | rfl | (go_simp; done) | (go_simp; rfl) | (go_simp; omega)) hHeld ?_
          simp only [Act.put, List.setIfInBounds_toArray, List.set_cons_zero, List.set_cons_succ]
          refine takeH 4 (some 117) (.agg (tabv p.v 35)) rfl rfl (by kernel_rfl) (by kernel_rfl) (by kernel_rfl) (fun _ _ _ h => h) (by rfl) (fun w hw => run_load_at w 36 _ rfl b1 (o1 + i * 35) (by rfl) _ 35 _ (HA1.out.below hw HB1.out) Try.underlying36 rfl infoP) hHeld ?_
          simp only [Act.put, List.setIfInBounds_toArray, List.set_cons_zero, List.set_cons_succ]
          refine takeH 5 (some 118) (.slice (some ⟨b2, o2, none⟩) na ck) rfl rfl (by kernel_rfl) (by kernel_rfl) (by kernel_rfl) (fun _ _ _ h => h) (by rfl) (fun w hw => by first | rfl | (go_simp; done) | (go_simp; rfl) | (go_simp; omega)) hHeld ?_
          simp only [Act.put, List.setIfInBounds_toArray, List.set_cons_zero, List.set_cons_succ]
          refine takeH 6 (some 119) (.int .i64 (i : Int)) rfl rfl (by kernel_rfl) (by kernel_rfl) (by kernel_rfl) (fun _ _ _ h => h) (by rfl) (fun w hw => by first | rfl | (go_simp; done) | (go_simp; rfl) | (go_simp; omega)) hHeld ?_
          simp only [Act.put, List.setIfInBounds_toArray, List.set_cons_zero, List.set_cons_succ]
          refine takeH 7 (some 120) (.pointer (some ⟨b2, o2 + i * 35, none⟩)) rfl rfl (by kernel_rfl) (by kernel_rfl) (by kernel_rfl) (fun _ _ _ h => h) (by rfl) (fun w hw => by have p0 := hk0; have p1 := hk1; have p2 := hk2; have p3 := hk3; first | rfl | (go_simp; done) | (go_simp; rfl) | (go_simp; omega)) hHeld ?_
          simp only [Act.put, List.setIfInBounds_toArray, List.set_cons_zero, List.set_cons_succ]
          refine takeH 8 (some 121) (.agg (tabv p.v 35)) rfl rfl (by kernel_rfl) (by kernel_rfl) (by kernel_rfl) (fun _ _ _ h => h) (by rfl) (fun w hw => run_load_at w 36 _ rfl b2 (o2 + i * 35) (by rfl) _ 35 _ (HA2.out.below hw HB2.out) Try.underlying36 rfl infoP) hHeld ?_
          simp only [Act.put, List.setIfInBounds_toArray, List.set_cons_zero, List.set_cons_succ]
          refine takeH 9 (some 122) (.bool false) rfl rfl (by kernel_rfl) (by kernel_rfl) (by kernel_rfl) (fun _ _ _ h => h) (by rfl) (fun w hw => run_neP w _ _ p p true rfl (by rfl) (by rfl) (fun w => by rw [eqPD, eqP_refl])) hHeld ?_
          simp only [Act.put, List.setIfInBounds_toArray, List.set_cons_zero, List.set_cons_succ]
          refine takeH 10 (some 123) (.bool false) rfl rfl (by kernel_rfl) (by kernel_rfl) (by kernel_rfl) (fun _ _ _ h => h) (by rfl) (fun w hw => by first | rfl | (go_simp; done) | (go_simp; rfl) | (go_simp; omega)) hHeld ?_
          simp only [Act.put, List.setIfInBounds_toArray, List.set_cons_zero, List.set_cons_succ]
          refine takeH 11 (some 124) (.pointer (some ⟨gt, 2, none⟩)) rfl rfl (by kernel_rfl) (by kernel_rfl) (by kernel_rfl) (fun _ _ _ h => h) (by rfl) (fun w hw => by first | rfl | (go_simp; done) | (go_simp; rfl) | (go_simp; omega)) hHeld ?_
          simp only [Act.put, List.setIfInBounds_toArray, List.set_cons_zero, List.set_cons_succ]
          refine takeH 12 (some 125) (.slice (some ⟨b3, o3, none⟩) (na + 1) c2) rfl rfl (by kernel_rfl) (by kernel_rfl) (by kernel_rfl) (fun _ _ _ h => h) (by rfl) (fun w hw => by have c : w.cell? ⟨gt, 2, none⟩ = some (.slice (some ⟨b3, o3, none⟩) (na + 1) c2) := (hw.cell (World.block_lt_of_cell? _ _ cLgt)).trans cLgt; first | (go_simp; done) | (go_simp; rfl)) hHeld ?_
          simp only [Act.put, List.setIfInBounds_toArray, List.set_cons_zero, List.set_cons_succ]
          refine takeH 13 (some 126) (.int .i64 (i : Int)) rfl rfl (by kernel_rfl) (by kernel_rfl) (by kernel_rfl) (fun _ _ _ h => h) (by rfl) (fun w hw => by first | rfl | (go_simp; done) | (go_simp; rfl) | (go_simp; omega)) hHeld ?_
          simp only [Act.put, List.setIfInBounds_toArray, List.set_cons_zero, List.set_cons_succ]
          refine takeH 14 (some 127) (.pointer (some ⟨b3, o3 + i * 35, none⟩)) rfl rfl (by kernel_rfl) (by kernel_rfl) (by kernel_rfl) (fun _ _ _ h => h) (by rfl) (fun w hw => by have p0 := hk0; have p1 := hk1; have p2 := hk2; have p3 := hk3; first | rfl | (go_simp; done) | (go_simp; rfl) | (go_simp; omega)) hHeld ?_
          simp only [Act.put, List.setIfInBounds_toArray, List.set_cons_zero, List.set_cons_succ]
          refine takeH 15 (some 128) (.pointer (some ⟨b3, o3 + i * 35 + 1, none⟩)) rfl rfl (by kernel_rfl) (by kernel_rfl) (by kernel_rfl) (fun _ _ _ h => h) (by rfl) (fun w hw => by first | rfl | (go_simp; done) | (go_simp; rfl) | (go_simp; omega)) hHeld ?_
          simp only [Act.put, List.setIfInBounds_toArray, List.set_cons_zero, List.set_cons_succ]
          refine takeH 16 (some 129) (.int .i64 (-1)) rfl rfl (by kernel_rfl) (by kernel_rfl) (by kernel_rfl) (fun _ _ _ h => h) (by rfl) (fun w hw => by have c : w.cell? ⟨b3, o3 + i * 35 + 1, none⟩ = some (.int .i64 (-1)) := (HA3.out.below hw HB3.out) 1 (by omega); first | (go_simp; done) | (go_simp; rfl)) hHeld ?_
          simp only [Act.put, List.setIfInBounds_toArray, List.set_cons_zero, List.set_cons_succ]
          refine takeH 17 (some 130) (.bool false) rfl rfl (by kernel_rfl) (by kernel_rfl) (by kernel_rfl) (fun _ _ _ h => h) (by rfl) (fun w hw => by first | rfl | (go_simp; done) | (go_simp; rfl) | (go_simp; omega)) hHeld ?_
          simp only [Act.put, List.setIfInBounds_toArray, List.set_cons_zero, List.set_cons_succ]
          refine takeH 18 (some 131) (.bool false) rfl rfl (by kernel_rfl) (by kernel_rfl) (by kernel_rfl) (fun _ _ _ h => h) (by rfl) (fun w hw => by first | rfl | (go_simp; done) | (go_simp; rfl) | (go_simp; omega)) hHeld ?_
          simp only [Act.put, List.setIfInBounds_toArray, List.set_cons_zero, List.set_cons_succ]
          refine ⟨by kernel_rfl, ?_⟩
          refine NoPanic.normal ?_
          have KN := hide (KW.out.below hHeld)
          clear hHeld KW
          try go_wp2
          go_roundw
          case rel => exact ⟨i + 1, by have := HJ.out; omega, by go_num, KN.out⟩
          case measure => have := HJ.out; simp [intOf]; omega
        · have hd : decide ((i : Int) < (na : Int)) = false := decide_eq_false (by omega)
          have hd2 : decide (i < na) = false := decide_eq_false hlt
          have hk0 : (0 : Int) ≤ (na : Int) := by omega
          have hk1 : (na : Int) < ((na + 1 : Nat) : Int) := by omega
          have hk2 : (na : Int) < (na : Int) + 1 := by omega
          have cLgs : wr.cell? ⟨gs, 2, none⟩ = some (.slice ads na cs) := KW.out.rs.cell 2 (by omega)
          have cLgt : wr.cell? ⟨gt, 2, none⟩ = some (.slice ad2 (na + 1) c2) := KW.out.rt.cell 2 (by omega)
          have g3 := KW.out.ot.ps.get na m2 (by rw [List.getElem?_append_right (by rw [List.length_replicate]; exact Nat.le_refl _), List.length_replicate, Nat.sub_self]; rfl)
          obtain ⟨b3, o3, e3, hb3, hA3⟩ := g3
          subst e3
          have HA3 := hide hA3
          have HB3 := hide hb3
          clear hA3 hb3 hlt hi
          go_wp2
          refine wp_region_noPanic ?_
          refine wp_region_held_drew (S := fun wx => Below wr.heap.size wr wx) (by kernel_rfl) ((Below.refl _ _).drew) (fun hHeld => ?_)
          refine takeH 0 (some 132) (.agg (tabv (ledv X Y (.slice ada na ca)) 3)) rfl rfl (by kernel_rfl) (by kernel_rfl) (by kernel_rfl) (fun _ _ _ h => h) (by rfl) (fun w hw => run_load_at w 24 _ rfl ga 0 (by rfl) _ 3 _ ((KW.out.ra.below hw KW.out.ra.lt).at_ 0 (by omega) (fun i hi => by rw [Nat.zero_add])) Try.underlying24 rfl infoL) hHeld ?_
          simp only [Act.put, List.setIfInBounds_toArray, List.set_cons_zero, List.set_cons_succ]
          refine takeH 2 (some 134) (.agg (tabv (ledv Y X (.slice ads na cs)) 3)) rfl rfl (by kernel_rfl) (by kernel_rfl) (by kernel_rfl) (fun _ _ _ h => h) (by rfl) (fun w hw => run_load_at w 24 _ rfl gs 0 (by rfl) _ 3 _ ((KW.out.rs.below hw KW.out.rs.lt).at_ 0 (by omega) (fun i hi => by rw [Nat.zero_add])) Try.underlying24 rfl infoL) hHeld ?_
          simp only [Act.put, List.setIfInBounds_toArray, List.set_cons_zero, List.set_cons_succ]
          refine wpAnyH_ready (rs := [1]) (by kernel_rfl) (by simp) (AllReadyH.cons rfl (fun K hK => ?_) AllReadyH.nil)
          rw [if_pos (by rfl)]
          go_simp
          refine (turn_any X Y ada na ca M HNA.out (by have := HM.out; omega) _ (KW.out.oa.ps.below hHeld)).mono ?_
          rintro e wA ⟨⟨vA, rfl, hOA⟩, hbA⟩
          obtain ⟨adA, cA, hvA, hSA, _, _, _⟩ := hOA.pens
          rw [HTL.out] at hvA
          subst hvA
          have HSA := hide hSA
          try go_wp2_with fail
          refine hK.out _ _ (hHeld.trans (hbA.mono hHeld.size)) (fun hH => ?_)
          clear hOA hSA hbA
          clear hK hHeld
          have hHeld := hH
          clear hH
          refine wpAnyH_ready (rs := [3]) (by kernel_rfl) (by simp) (AllReadyH.cons rfl (fun K hK => ?_) AllReadyH.nil)
          rw [if_pos (by rfl)]
          go_simp
          refine (same_any Y X Y X adA ads na cA na cs (turnP M) (turnP M) HTL.out HTL.out (by have := HM.out; omega) (by have := HM.out; omega) _ HSA.out (KW.out.os.ps.below hHeld)).mono ?_
          rintro e wB ⟨R, rfl, hR, hbB⟩
          obtain rfl : R = true := hR.2 ⟨rfl, rfl, eqL_refl _⟩
          try go_wp2_with fail
          refine hK.out _ _ (hHeld.trans (hbB.mono hHeld.size)) (fun hH => ?_)
          clear hR hbB
          clear hK hHeld
          have hHeld := hH
          clear hH
          refine takeH 4 (some 136) (.bool true) rfl rfl (by kernel_rfl) (by kernel_rfl) (by kernel_rfl) (fun _ _ _ h => h) (by rfl) (fun w hw => by first | rfl | (go_simp; done) | (go_simp; rfl) | (go_simp; omega)) hHeld ?_
          simp only [Act.put, List.setIfInBounds_toArray, List.set_cons_zero, List.set_cons_succ]
          refine takeH 5 (some 137) (.pointer (some ⟨gs, 2, none⟩)) rfl rfl (by kernel_rfl) (by kernel_rfl) (by kernel_rfl) (fun _ _ _ h => h) (by rfl) (fun w hw => by first | rfl | (go_simp; done) | (go_simp; rfl) | (go_simp; omega)) hHeld ?_
          simp only [Act.put, List.setIfInBounds_toArray, List.set_cons_zero, List.set_cons_succ]
          refine takeH 6 (some 138) (.slice ads na cs) rfl rfl (by kernel_rfl) (by kernel_rfl) (by kernel_rfl) (fun _ _ _ h => h) (by rfl) (fun w hw => by have c : w.cell? ⟨gs, 2, none⟩ = some (.slice ads na cs) := (hw.cell (World.block_lt_of_cell? _ _ cLgs)).trans cLgs; first | (go_simp; done) | (go_simp; rfl)) hHeld ?_
          simp only [Act.put, List.setIfInBounds_toArray, List.set_cons_zero, List.set_cons_succ]
          refine takeH 7 (some 139) (.int .i64 (na : Int)) rfl rfl (by kernel_rfl) (by kernel_rfl) (by kernel_rfl) (fun _ _ _ h => h) (by rfl) (fun w hw => by first | rfl | (go_simp; done) | (go_simp; rfl) | (go_simp; omega)) hHeld ?_
          simp only [Act.put, List.setIfInBounds_toArray, List.set_cons_zero, List.set_cons_succ]
          refine takeH 8 (some 140) (.slice adk na ck) rfl rfl (by kernel_rfl) (by kernel_rfl) (by kernel_rfl) (fun _ _ _ h => h) (by rfl) (fun w hw => by first | rfl | (go_simp; done) | (go_simp; rfl) | (go_simp; omega)) hHeld ?_
          simp only [Act.put, List.setIfInBounds_toArray, List.set_cons_zero, List.set_cons_succ]
          refine takeH 9 (some 141) (.int .i64 (na : Int)) rfl rfl (by kernel_rfl) (by kernel_rfl) (by kernel_rfl) (fun _ _ _ h => h) (by rfl) (fun w hw => by first | rfl | (go_simp; done) | (go_simp; rfl) | (go_simp; omega)) hHeld ?_
          simp only [Act.put, List.setIfInBounds_toArray, List.set_cons_zero, List.set_cons_succ]
          refine takeH 10 (some 142) (.bool true) rfl rfl (by kernel_rfl) (by kernel_rfl) (by kernel_rfl) (fun _ _ _ h => h) (by rfl) (fun w hw => by first | rfl | (go_simp; done) | (go_simp; rfl) | (go_simp; omega)) hHeld ?_
          simp only [Act.put, List.setIfInBounds_toArray, List.set_cons_zero, List.set_cons_succ]
          refine takeH 11 (some 143) (.bool true) rfl rfl (by kernel_rfl) (by kernel_rfl) (by kernel_rfl) (fun _ _ _ h => h) (by rfl) (fun w hw => by first | rfl | (go_simp; done) | (go_simp; rfl) | (go_simp; omega)) hHeld ?_
          simp only [Act.put, List.setIfInBounds_toArray, List.set_cons_zero, List.set_cons_succ]
          refine takeH 12 (some 144) (.bool true) rfl rfl (by kernel_rfl) (by kernel_rfl) (by kernel_rfl) (fun _ _ _ h => h) (by rfl) (fun w hw => by first | rfl | (go_simp; done) | (go_simp; rfl) | (go_simp; omega)) hHeld ?_
          simp only [Act.put, List.setIfInBounds_toArray, List.set_cons_zero, List.set_cons_succ]
          refine takeH 13 (some 145) (.pointer (some ⟨gt, 2, none⟩)) rfl rfl (by kernel_rfl) (by kernel_rfl) (by kernel_rfl) (fun _ _ _ h => h) (by rfl) (fun w hw => by first | rfl | (go_simp; done) | (go_simp; rfl) | (go_simp; omega)) hHeld ?_
          simp only [Act.put, List.setIfInBounds_toArray, List.set_cons_zero, List.set_cons_succ]
          refine takeH 14 (some 146) (.slice (some ⟨b3, o3, none⟩) (na + 1) c2) rfl rfl (by kernel_rfl) (by kernel_rfl) (by kernel_rfl) (fun _ _ _ h => h) (by rfl) (fun w hw => by have c : w.cell? ⟨gt, 2, none⟩ = some (.slice (some ⟨b3, o3, none⟩) (na + 1) c2) := (hw.cell (World.block_lt_of_cell? _ _ cLgt)).trans cLgt; first | (go_simp; done) | (go_simp; rfl)) hHeld ?_
          simp only [Act.put, List.setIfInBounds_toArray, List.set_cons_zero, List.set_cons_succ]
          refine takeH 15 (some 147) (.slice adk na ck) rfl rfl (by kernel_rfl) (by kernel_rfl) (by kernel_rfl) (fun _ _ _ h => h) (by rfl) (fun w hw => by first | rfl | (go_simp; done) | (go_simp; rfl) | (go_simp; omega)) hHeld ?_
          simp only [Act.put, List.setIfInBounds_toArray, List.set_cons_zero, List.set_cons_succ]
          refine takeH 16 (some 148) (.int .i64 (na : Int)) rfl rfl (by kernel_rfl) (by kernel_rfl) (by kernel_rfl) (fun _ _ _ h => h) (by rfl) (fun w hw => by first | rfl | (go_simp; done) | (go_simp; rfl) | (go_simp; omega)) hHeld ?_
          simp only [Act.put, List.setIfInBounds_toArray, List.set_cons_zero, List.set_cons_succ]
          refine takeH 17 (some 149) (.pointer (some ⟨b3, o3 + na * 35, none⟩)) rfl rfl (by kernel_rfl) (by kernel_rfl) (by kernel_rfl) (fun _ _ _ h => h) (by rfl) (fun w hw => by have p0 := hk0; have p1 := hk1; have p2 := hk2; first | rfl | (go_simp; done) | (go_simp; rfl) | (go_simp; omega)) hHeld ?_
          simp only [Act.put, List.setIfInBounds_toArray, List.set_cons_zero, List.set_cons_succ]
          refine takeH 18 (some 150) (.pointer (some ⟨b3, o3 + na * 35 + 1, none⟩)) rfl rfl (by kernel_rfl) (by kernel_rfl) (by kernel_rfl) (fun _ _ _ h => h) (by rfl) (fun w hw => by first | rfl | (go_simp; done) | (go_simp; rfl) | (go_simp; omega)) hHeld ?_
          simp only [Act.put, List.setIfInBounds_toArray, List.set_cons_zero, List.set_cons_succ]
          refine takeH 19 (some 151) (.int .i64 (-2)) rfl rfl (by kernel_rfl) (by kernel_rfl) (by kernel_rfl) (fun _ _ _ h => h) (by rfl) (fun w hw => by have c : w.cell? ⟨b3, o3 + na * 35 + 1, none⟩ = some (.int .i64 (-2)) := (HA3.out.below hw HB3.out) 1 (by omega); first | (go_simp; done) | (go_simp; rfl)) hHeld ?_
          simp only [Act.put, List.setIfInBounds_toArray, List.set_cons_zero, List.set_cons_succ]
          refine takeH 20 (some 152) (.bool true) rfl rfl (by kernel_rfl) (by kernel_rfl) (by kernel_rfl) (fun _ _ _ h => h) (by rfl) (fun w hw => by first | rfl | (go_simp; done) | (go_simp; rfl) | (go_simp; omega)) hHeld ?_
          simp only [Act.put, List.setIfInBounds_toArray, List.set_cons_zero, List.set_cons_succ]
          refine takeH 21 (some 153) (.bool true) rfl rfl (by kernel_rfl) (by kernel_rfl) (by kernel_rfl) (fun _ _ _ h => h) (by rfl) (fun w hw => by first | rfl | (go_simp; done) | (go_simp; rfl) | (go_simp; omega)) hHeld ?_
          simp only [Act.put, List.setIfInBounds_toArray, List.set_cons_zero, List.set_cons_succ]
          refine takeH 22 (some 154) (.bool true) rfl rfl (by kernel_rfl) (by kernel_rfl) (by kernel_rfl) (fun _ _ _ h => h) (by rfl) (fun w hw => by first | rfl | (go_simp; done) | (go_simp; rfl) | (go_simp; omega)) hHeld ?_
          simp only [Act.put, List.setIfInBounds_toArray, List.set_cons_zero, List.set_cons_succ]
          refine takeH 23 (some 155) (.agg (tabv (ledv X Y (.slice adb na cb)) 3)) rfl rfl (by kernel_rfl) (by kernel_rfl) (by kernel_rfl) (fun _ _ _ h => h) (by rfl) (fun w hw => run_load_at w 24 _ rfl gb 0 (by rfl) _ 3 _ ((KW.out.rb.below hw KW.out.rb.lt).at_ 0 (by omega) (fun i hi => by rw [Nat.zero_add])) Try.underlying24 rfl infoL) hHeld ?_
          simp only [Act.put, List.setIfInBounds_toArray, List.set_cons_zero, List.set_cons_succ]
          refine takeH 25 (some 157) (.agg (tabv (ledv Y X (.slice ads na cs)) 3)) rfl rfl (by kernel_rfl) (by kernel_rfl) (by kernel_rfl) (fun _ _ _ h => h) (by rfl) (fun w hw => run_load_at w 24 _ rfl gs 0 (by rfl) _ 3 _ ((KW.out.rs.below hw KW.out.rs.lt).at_ 0 (by omega) (fun i hi => by rw [Nat.zero_add])) Try.underlying24 rfl infoL) hHeld ?_
          simp only [Act.put, List.setIfInBounds_toArray, List.set_cons_zero, List.set_cons_succ]
          refine wpAnyH_ready (rs := [24]) (by kernel_rfl) (by simp) (AllReadyH.cons rfl (fun K hK => ?_) AllReadyH.nil)
          rw [if_pos (by rfl)]
          go_simp
          refine (turn_any X Y adb na cb M HNA.out (by have := HM.out; omega) _ (KW.out.ob.ps.below hHeld)).mono ?_
          rintro e wA ⟨⟨vA, rfl, hOA⟩, hbA⟩
          obtain ⟨adD, cD, hvA, hSA, _, _, _⟩ := hOA.pens
          rw [HTL.out] at hvA
          subst hvA
          have HSD := hide hSA
          try go_wp2_with fail
          refine hK.out _ _ (hHeld.trans (hbA.mono hHeld.size)) (fun hH => ?_)
          clear hOA hSA hbA
          clear hK hHeld
          have hHeld := hH
          clear hH
          refine wpAnyH_ready (rs := [26]) (by kernel_rfl) (by simp) (AllReadyH.cons rfl (fun K hK => ?_) AllReadyH.nil)
          rw [if_pos (by rfl)]
          go_simp
          refine (same_any Y X Y X adD ads na cD na cs (turnP M) (turnP M) HTL.out HTL.out (by have := HM.out; omega) (by have := HM.out; omega) _ HSD.out (KW.out.os.ps.below hHeld)).mono ?_
          rintro e wB ⟨R, rfl, hR, hbB⟩
          obtain rfl : R = true := hR.2 ⟨rfl, rfl, eqL_refl _⟩
          try go_wp2_with fail
          refine hK.out _ _ (hHeld.trans (hbB.mono hHeld.size)) (fun hH => ?_)
          clear hR hbB
          clear hK hHeld
          have hHeld := hH
          clear hH
          refine takeH 27 (some 159) (.bool true) rfl rfl (by kernel_rfl) (by kernel_rfl) (by kernel_rfl) (fun _ _ _ h => h) (by rfl) (fun w hw => by first | rfl | (go_simp; done) | (go_simp; rfl) | (go_simp; omega)) hHeld ?_
          simp only [Act.put, List.setIfInBounds_toArray, List.set_cons_zero, List.set_cons_succ]
          refine takeH 28 (some 2) (.bool true) rfl rfl (by kernel_rfl) (by kernel_rfl) (by kernel_rfl) (fun _ _ _ h => h) (by rfl) (fun w hw => by first | rfl | (go_simp; done) | (go_simp; rfl) | (go_simp; omega)) hHeld ?_
          simp only [Act.put, List.setIfInBounds_toArray, List.set_cons_zero, List.set_cons_succ]
          refine ⟨by kernel_rfl, ?_⟩
          refine NoPanic.normal ?_
          have gbF := KW.out.bel.trans (hHeld.mono KW.out.sz)
          try go_wp2
          go_ret
          exact ⟨rfl, by first | exact gbF | (rw [hg0]; exact gbF)⟩
theorem turns_row (x y : Int) (ad : Option Addr) (n cap : Nat) (l : List Pen) (hn : l.length = n) (hz : n * 56 ≤ 140737488351232) (_ : n ≤ cap) (W : World) (hS : Pens W ad l) : Calls Try.prog 3 #[.agg (tabv (ledv x y (.slice ad n cap)) 3)] W fun e w' => e = .returned (.bool true) ∧ Below W.heap.size W w' :=
  turns_walk x y ad n cap l hn (by omega) W hS
end Go.Proofs.Ythmbpddpdbkioaa
