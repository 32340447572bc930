import Derived.Test.YtmmcoedgoekhgaaGreatDoorRsUps
import Derived.Test.YtmmcoedgoekhgaaGreatDoorRsSmall
import Derived.Deep.CutRange
import Derived.Laws.EntriesVeiled
import Derived.Test.YtmmcoedgoekhgaaGreatDoorDSgText
import Derived.Test.YtmmcoedgoekhgaaGreatDoorLast
import Derived.BigQuiet
import Derived.Deep.QuietTactic
/-
  resume: Answer (printed by gen_e4.py).
-/
namespace Go.Proofs.YtmmcoedgoekhgaaGreatDoor
open Go.RowKit S
set_option linter.unusedVariables false
set_option linter.unusedSimpArgs false
theorem hmfR (fn : Fn) (first cap : Array Value) (w : World) : (Instr.makeFunc fn first cap).run Tryz.prog w = .ok (.func fn first cap) w := rfl
/-- What is sent behind a hello that is answered; ag: the commitment again. -/
def ansL (c : Cf) (s : St) (m : Msg) (mine : List Upd) (ag : Msg) : List Msg := (((([] ++ rvL c s m true) ++ (bif lackB s m then (btw mine s.ho s.so).map ofU ++ [ag] else [])) ++ rvL c s m false) ++ (btw mine s.so (mine.length : Int)).map ofU)
/-- The commitment again. -/
def AgM (c : Cf) (s : St) (mine others : List Upd) (ag : Msg) : Prop := ∃ b k, ag = commitM s.rem (mac c.key b.data.toList) ∧ TX (sgF s mine others) (IntKind.i64.wrap (1 - s.side)) s.rem (bif s.rem != s.ack then s.p1 else s.p0) (sgF s mine others).y (sgF s mine others).x (turnP (sgF s mine others).l) b k
/-- What Answer answers. -/
def AnsP (c : Cf) (s : St) (m : Msg) (mine others : List Upd) (B : Nat) (w' : World) (v : Value) (E : Int) : Prop := (refA c s m ≠ 0 → v = .slice none 0 0 ∧ E = refA c s m) ∧ (refA c s m = 0 → E = 0 ∧ ∃ ag, (lackB s m = true → AgM c s mine others ag) ∧ OwnM B w' v (ansL c s m mine ag))
theorem btw_le (l : List Upd) (a b : Int) : (btw l a b).length ≤ l.length := by
  rw [btw_len]
  exact Nat.le_trans (Nat.sub_le _ _) (by unfold btwHi; exact Nat.min_le_right _ _)
theorem rvL_len (c : Cf) (s : St) (m : Msg) (b : Bool) : (rvL c s m b).length ≤ 1 := by
  unfold rvL
  cases rvB s m b
  · exact Nat.zero_le _
  · exact Nat.le_refl _
set_option maxRecDepth 100000 in
set_option maxHeartbeats 40000000 in
theorem answer_any (c : Cf) (s : St) (m : Msg) (mine others : List Upd) (hn1 : mine.length = s.ours.n) (hn2 : others.length = s.peers.n) (z1 : s.ours.n ≤ 1048576) (z2 : s.peers.n ≤ 1955000000000) (k1 : s.ours.n ≤ s.ours.c) (k2 : s.peers.n ≤ s.peers.c) (hx : -9223372036854775808 ≤ m.nxt ∧ m.nxt ≤ 9223372036854775807) (w : World) (hG : Glob num w) (hS1 : Upds w s.ours.ad mine) (hS2 : Upds w s.peers.ad others) : Calls Tryz.prog 34 #[.agg (tabv c.v 164), .agg (tabv s.v 115), .agg (tabv m.v 70)] w fun e w' => ∃ v E, e = .returned (.tuple #[v, .int .i64 E]) ∧ AnsP c s m mine others w.heap.size w' v E ∧ Below w.heap.size w w' := by
  obtain ⟨w1, hW1⟩ : ∃ wX, w.alloc (.cells (tabv c.v 164) 26) = wX := ⟨_, rfl⟩
  have rc : Has w1 w.heap.size 26 c.v 164 := by rw [← hW1]; exact Has.new w 26 c.v 164 _ rfl
  have bb : Below w.heap.size w w1 := by rw [← hW1]; exact (Below.refl w.heap.size w).alloc (Nat.le_refl _) _
  have gb : Below w.heap.size w w1 := bb
  clear bb
  obtain ⟨w2, hW2⟩ : ∃ wX, w1.alloc (.cells (tabv s.v 115) 32) = wX := ⟨_, rfl⟩
  have rs : Has w2 w1.heap.size 32 s.v 115 := by rw [← hW2]; exact Has.new w1 32 s.v 115 _ rfl
  have bb : Below w1.heap.size w1 w2 := by rw [← hW2]; exact (Below.refl w1.heap.size w1).alloc (Nat.le_refl _) _
  have rc := rc.below bb rc.lt
  have gb : Below w.heap.size w w2 := gb.trans (bb.mono gb.size)
  clear bb
  obtain ⟨w3, hW3⟩ : ∃ wX, w2.alloc (.cells (tabv m.v 70) 36) = wX := ⟨_, rfl⟩
  have rm : Has w3 w2.heap.size 36 m.v 70 := by rw [← hW3]; exact Has.new w2 36 m.v 70 _ rfl
  have bb : Below w2.heap.size w2 w3 := by rw [← hW3]; exact (Below.refl w2.heap.size w2).alloc (Nat.le_refl _) _
  have rc := rc.below bb rc.lt
  have rs := rs.below bb rs.lt
  have gb : Below w.heap.size w w3 := gb.trans (bb.mono gb.size)
  clear bb
  have Rb_c := hide rc
  have Rb_s := hide rs
  have Rb_m := hide rm
  have GB := hide gb
  clear gb rc rs rm
  have L1 : w.heap.size < w1.heap.size := by rw [← hW1, size_alloc]; omega
  have L2 : w1.heap.size < w2.heap.size := by rw [← hW2, size_alloc]; omega
  have HRf := hide (fun wx (hb : Below w.heap.size w wx) => refusal_any c s m hx wx (hG.up hb))
  have HLk := hide (fun wx : World => lacks_any s m wx)
  have HAg := hide (fun wx (hb : Below w.heap.size w wx) => again_any num c s mine others hn1 hn2 (by omega) z2 k1 k2 wx (hG.up hb) (hS1.below hb) (hS2.below hb))
  have HG := hide (fun wx (hb : Below w.heap.size w wx) => hG.up hb)
  have HN := hide hn1
  have HU := hide hS1
  have HZ1 := hide z1
  have HK1 := hide k1
  have hmf := hmfR
  have PN : refA c s m ≠ 0 → ∀ w', AnsP c s m mine others w.heap.size w' (.slice none 0 0) (refA c s m) := fun h w' => ⟨fun _ => ⟨rfl, rfl⟩, fun e => absurd e h⟩
  have PY : refA c s m = 0 → ∀ w' v ag, (lackB s m = true → AgM c s mine others ag) → OwnM w.heap.size w' v (ansL c s m mine ag) → AnsP c s m mine others w.heap.size w' v 0 := fun h w' v ag h1 h2 => ⟨fun e => absurd h e, fun _ => ⟨rfl, ag, h1, h2⟩⟩
  generalize AnsP c s m mine others = AP at PN PY ⊢
  generalize refA c s m = RA at HRf PN PY
  replace PN := hide PN
  replace PY := hide PY
  clear hn1 hn2 z1 z2 k1 k2 hx hG hS1 hS2
  go_enter Tryz.func34, Tryz.ntmps34
  go_wp2_with (first | refine wpW_load_at 26 _ rfl (w.heap.size) (0) (by rfl) (by rfl) _ 164 _ (Rb_c.out.at_ 0 (by omega) (fun i hi => by rw [Nat.zero_add])) Tryz.underlying26 rfl infoCf ?_ | refine wpW_load_at 32 _ rfl (w1.heap.size) (0) (by rfl) (by rfl) _ 115 _ (Rb_s.out.at_ 0 (by omega) (fun i hi => by rw [Nat.zero_add])) Tryz.underlying32 rfl infoSt ?_ | refine wpW_load_at 36 _ rfl (w2.heap.size) (0) (by rfl) (by rfl) _ 70 _ (Rb_m.out.at_ 0 (by omega) (fun i hi => by rw [Nat.zero_add])) Tryz.underlying36 rfl infoM ?_ | fail)
  refine (HRf.out _ GB.out).mono ?_
  rintro e y1 ⟨rfl, hb⟩
  have hz3 : w3.heap.size ≤ y1.heap.size := hb.size
  have Ry1_c := hide (Rb_c.out.below hb Rb_c.out.lt)
  have Ry1_s := hide (Rb_s.out.below hb Rb_s.out.lt)
  have Ry1_m := hide (Rb_m.out.below hb Rb_m.out.lt)
  have Gy1 := hide (GB.out.trans (hb.mono GB.out.size))
  clear hb
  cases q : (RA != 0) with
  | true =>
    go_wp2
    go_ret2
    exact ⟨_, _, rfl, PN.out (by simpa using q) _, Gy1.out⟩
  | false =>
    have hRA : RA = 0 := by simpa using q
    clear q PN
    obtain ⟨v1, hV1⟩ : ∃ wX, y1.alloc (.cells #[.slice none 0 0] 70) = wX := ⟨_, rfl⟩
    have r1 : Has v1 y1.heap.size 70 (fun _ => Sl.v ⟨none, 0, 0⟩) 1 := by rw [← hV1]; exact Has.new y1 _ (fun _ => Sl.v ⟨none, 0, 0⟩) 1 _ rfl
    have hb : Below y1.heap.size y1 v1 := by rw [← hV1]; exact (Below.refl _ _).alloc (Nat.le_refl _) _
    have LG : w3.heap.size ≤ y1.heap.size := hz3
    have LV : y1.heap.size < v1.heap.size := by rw [← hV1, size_alloc]; omega
    have Rv1_c := hide (Ry1_c.out.below hb Ry1_c.out.lt)
    have Rv1_s := hide (Ry1_s.out.below hb Ry1_s.out.lt)
    have Rv1_m := hide (Ry1_m.out.below hb Ry1_m.out.lt)
    have Gv1 := hide (Gy1.out.trans (hb.mono Gy1.out.size))
    clear hb
    obtain ⟨v2, hV2⟩ : ∃ wX, v1.alloc (.cells #[.func (.func 80) #[] #[.pointer (some ⟨y1.heap.size, 0, none⟩)]] 121) = wX := ⟨_, rfl⟩
    have r2 : Has v2 v1.heap.size 121 (fun _ => .func (.func 80) #[] #[.pointer (some ⟨y1.heap.size, 0, none⟩)]) 1 := by rw [← hV2]; exact Has.new v1 _ (fun _ => .func (.func 80) #[] #[.pointer (some ⟨y1.heap.size, 0, none⟩)]) 1 _ rfl
    have hb : Below v1.heap.size v1 v2 := by rw [← hV2]; exact (Below.refl _ _).alloc (Nat.le_refl _) _
    have LV2 : v1.heap.size < v2.heap.size := by rw [← hV2, size_alloc]; omega
    have r12 := r1.below hb r1.lt
    have Rv2_c := hide (Rv1_c.out.below hb Rv1_c.out.lt)
    have Rv2_s := hide (Rv1_s.out.below hb Rv1_s.out.lt)
    have Rv2_m := hide (Rv1_m.out.below hb Rv1_m.out.lt)
    have Gv2 := hide (Gv1.out.trans (hb.mono Gv1.out.size))
    clear hb
    have L3 : w2.heap.size < w3.heap.size := by rw [← hW3, size_alloc]; omega
    have KV : Hid (CV c s m w.heap.size w1.heap.size w2.heap.size v1.heap.size (y1.heap.size) v2.heap.size w v2) := ⟨Rv2_c.out, Rv2_s.out, Rv2_m.out, r2, Gv2.out, Nat.le_refl _, by omega, by omega, by omega, LV, LV2, Nat.le_refl _⟩
    have KO : Hid (OutB v2.heap.size (y1.heap.size) [] v2) := ⟨⟨none, 0, 0⟩, r12, OwnM.nil _ _, by omega⟩
    clear r1 r2 r12
    have LL : w.heap.size < y1.heap.size := by omega
    have BF : Hid (∀ wx, KpO v2.heap.size (y1.heap.size) v2 wx → Below w.heap.size w wx) := fun wx k => Gv2.out.trans (k.low (by omega) (by omega))
    go_upto_region 8 with (first | rw [hV1] | rw [hV2] | fail)
    try rw [hV2]
    generalize hgg : y1.heap.size = gO at KV KO BF LL ⊢
    generalize hgf : v1.heap.size = gF at KV ⊢
    generalize hbb : v2.heap.size = BB at KV KO BF
    clear hgg hgf hbb
    have KK := hide (KpO.refl BB gO v2)
    have HLs := hide (rvL_len c s m true)
    have HLf := hide (rvL_len c s m false)
    go_wp2_with fail
    refine (sendRev_any c s m w.heap.size w1.heap.size w2.heap.size gF gO BB w _ KV.out true [] (fun wx hb => HG.out wx hb) (by decide) KO.out).mono ?_
    rintro e x1 ⟨rfl, ob, kb⟩
    have V1 := hide (KV.out.keep kb)
    have O1 := hide ob
    have K1 := hide (KK.out.trans kb)
    clear ob kb
    have PYY := hide (fun w' v ag h1 h2 => PY.out hRA w' v ag h1 h2)
    clear PY
    go_wp2_with (first | refine wpW_load_at 32 _ rfl (w1.heap.size) (0) (by rfl) (by rfl) _ 115 _ (V1.out.s.at_ 0 (by omega) (fun i hi => by rw [Nat.zero_add])) Tryz.underlying32 rfl infoSt ?_ | refine wpW_load_at 36 _ rfl (w2.heap.size) (0) (by rfl) (by rfl) _ 70 _ (V1.out.m.at_ 0 (by omega) (fun i hi => by rw [Nat.zero_add])) Tryz.underlying36 rfl infoM ?_ | fail)
    refine (HLk.out _).mono ?_
    rintro e x2 ⟨rfl, hb⟩
    have hz : BB ≤ x1.heap.size := V1.out.z.2.2.2.2.2.2
    have V2 := hide (V1.out.low hb)
    have O2 := hide (O1.out.below hb)
    have K2 := hide (K1.out.trans (KpO.of hb hz))
    clear hb hz V1 O1 K1
    cases qL : lackB s m with
    | true =>
      have cq1 : x2.cell? ⟨w1.heap.size, 11, none⟩ = some (.int .i64 s.so) := V2.out.s.cell 11 (by omega)
      have cq2 : x2.cell? ⟨w1.heap.size, 13, none⟩ = some (.int .i64 s.ho) := V2.out.s.cell 13 (by omega)
      have hl : (([] ++ rvL c s m true).length + s.ours.n + 1) * 120 ≤ 140737488355328 := by
        have h1 := HLs.out; have h2 := HZ1.out
        simp only [List.length_append, List.length_nil]
        omega
      go_wp2_with fail
      refine (sendUps_any c s m w.heap.size w1.heap.size w2.heap.size gF gO BB w _ V2.out s.ho s.so mine _ HN.out HK1.out HU.out hl O2.out).mono ?_
      rintro e x3 ⟨rfl, ob, kb⟩
      clear hl cq1 cq2
      have V3 := hide (V2.out.keep kb)
      have O3 := hide ob
      have K3 := hide (K2.out.trans kb)
      clear ob kb
      go_upto_region 11 with fail
      refine wp_region_noPanic ?_
      refine wp_region_T (S := fun wx => Below x3.heap.size x3 wx) 4 (by kernel_rfl) ((Below.refl _ _).drew) (fun hHeld => ?_)
      generalize hwd : World.drew _ = wd at hHeld ⊢
      refine takeT 0 (some 36) (.func (.func 80) #[] #[.pointer (some ⟨gO, 0, none⟩)]) rfl rfl (by kernel_rfl) (by kernel_rfl) (by kernel_rfl) (by kernel_rfl) (by decide) (fun _ _ _ h => h) (by rfl) (fun w_ hw => by have c : World.cell? _ ⟨gF, 0, none⟩ = some (.func (.func 80) #[] #[.pointer (some ⟨gO, 0, none⟩)]) := (V3.out.f.below hw V3.out.f.lt).cell 0 (by omega); first | rfl | (go_simp; done) | (go_simp; rfl)) hHeld ?_
      simp only [Act.put, List.setIfInBounds_toArray, List.set_cons_zero, List.set_cons_succ]
      refine takeP [3] 1 (some 37) (.agg (tabv c.v 164)) rfl rfl (by kernel_rfl) (by kernel_rfl) (by kernel_rfl) (by kernel_rfl) (by kernel_rfl) (by decide) (fun _ _ _ h => h) (by rfl) (fun w_ hw => run_load_at w_ 26 _ rfl (w.heap.size) 0 (by rfl) _ 164 _ ((V3.out.c.below hw V3.out.c.lt).at_ 0 (by omega) (fun i hi => by rw [Nat.zero_add])) Tryz.underlying26 rfl infoCf) hHeld ?_
      simp only [Act.put, List.setIfInBounds_toArray, List.set_cons_zero, List.set_cons_succ]
      refine takeP [3] 2 (some 38) (.agg (tabv s.v 115)) rfl rfl (by kernel_rfl) (by kernel_rfl) (by kernel_rfl) (by kernel_rfl) (by kernel_rfl) (by decide) (fun _ _ _ h => h) (by rfl) (fun w_ hw => run_load_at w_ 32 _ rfl (w1.heap.size) 0 (by rfl) _ 115 _ ((V3.out.s.below hw V3.out.s.lt).at_ 0 (by omega) (fun i hi => by rw [Nat.zero_add])) Tryz.underlying32 rfl infoSt) hHeld ?_
      simp only [Act.put, List.setIfInBounds_toArray, List.set_cons_zero, List.set_cons_succ]
      refine readyT 3 (by kernel_rfl) rfl (by rfl) (fun K hK => ?_)
      go_simp
      refine (HAg.out _ (V3.out.b.trans (hHeld.mono V3.out.b.size))).mono ?_
      rintro e ya ⟨tb, tk, rfl, hTX, hbq⟩
      have HTX := hide hTX
      clear hTX
      try go_wp2_with fail
      refine hK.out _ _ (fun _ => hHeld.trans (hbq.mono hHeld.size)) (fun hH => ?_)
      clear hHeld
      have hHeld := hH (by decide)
      clear hK hH hbq
      have HAM : Hid (AgM c s mine others (commitM s.rem (mac c.key tb.data.toList))) := ⟨tb, tk, rfl, HTX.out⟩
      generalize commitM s.rem (mac c.key tb.data.toList) = AG at HAM ⊢
      clear HTX
      have hl : ((([] ++ rvL c s m true) ++ (btw mine s.ho s.so).map ofU).length + 1) * 120 ≤ 140737488355328 := by
        have h1 := HLs.out; have h2 := HZ1.out; have h3 := HN.out; have h4 := btw_le mine s.ho s.so
        simp only [List.length_append, List.length_map, List.length_nil]
        omega
      refine readyT 4 (by kernel_rfl) rfl (by rfl) (fun K hK => ?_)
      go_simp
      refine (send_any AG gO BB _ hl _ (O3.out.below hHeld) (by have h1 := V3.out.z; have h2 := hHeld.size; omega)).mono ?_
      rintro e x4 ⟨rfl, ob, kb2⟩
      try go_wp2_with fail
      have kb := (KpO.of hHeld V3.out.z.2.2.2.2.2.2).trans kb2
      clear kb2 hl
      have V4 := hide (V3.out.keep kb)
      have O4 := hide ob
      have K4 := hide (K3.out.trans kb)
      clear ob kb
      refine hK.out _ _ (fun x => absurd rfl x) (fun _ => ?_)
      clear hK hHeld hwd
      refine ⟨by kernel_rfl, ?_⟩
      refine NoPanic.normal ?_
      have OC : Hid (OutB BB gO (([] ++ rvL c s m true) ++ ((btw mine s.ho s.so).map ofU ++ [AG])) x4) := by have h := O4.out; rw [List.append_assoc] at h; exact h
      have hl : ((([] ++ rvL c s m true) ++ ((btw mine s.ho s.so).map ofU ++ [AG])).length + 1) * 120 ≤ 140737488355328 := by
        have h1 := HLs.out; have h2 := HZ1.out; have h3 := HN.out; have h4 := btw_le mine s.ho s.so
        simp only [List.length_append, List.length_map, List.length_nil, List.length_cons]
        omega
      go_wp2_with fail
      refine (sendRev_any c s m w.heap.size w1.heap.size w2.heap.size gF gO BB w _ V4.out false _ (fun wx hb => HG.out wx hb) hl OC.out).mono ?_
      rintro e x8 ⟨rfl, ob, kb⟩
      clear hl
      have V5 := hide (V4.out.keep kb)
      have O5 := hide ob
      have K5 := hide (K4.out.trans kb)
      clear ob kb
      have cq1 : x8.cell? ⟨w1.heap.size, 11, none⟩ = some (.int .i64 s.so) := V5.out.s.cell 11 (by omega)
      have cq2 : x8.cell? ⟨w1.heap.size, 4, none⟩ = some (.slice s.ours.ad s.ours.n s.ours.c) := V5.out.s.cell 4 (by omega)
      have hl : (((([] ++ rvL c s m true) ++ ((btw mine s.ho s.so).map ofU ++ [AG])) ++ rvL c s m false).length + s.ours.n + 1) * 120 ≤ 140737488355328 := by
        have h1 := HLs.out; have h5 := HLf.out; have h2 := HZ1.out; have h3 := HN.out; have h4 := btw_le mine s.ho s.so
        simp only [List.length_append, List.length_map, List.length_nil, List.length_cons]
        omega
      go_wp2_with fail
      refine (sendUps_any c s m w.heap.size w1.heap.size w2.heap.size gF gO BB w _ V5.out s.so (s.ours.n : Int) mine _ HN.out HK1.out HU.out hl O5.out).mono ?_
      rintro e x9 ⟨rfl, ob, kb⟩
      clear hl cq1 cq2
      have V6 := hide (V5.out.keep kb)
      have O6 := hide ob
      have K6 := hide (K5.out.trans kb)
      clear ob kb
      obtain ⟨xo, ro, oo, _⟩ := O6.out
      have cq3 : x9.cell? ⟨gO, 0, none⟩ = some (.slice xo.ad xo.n xo.c) := ro.cell 0 (by omega)
      have OO := hide oo
      clear ro oo
      go_wp2
      go_ret2
      refine ⟨_, _, rfl, PYY.out _ (Sl.v xo) AG (fun _ => HAM.out) ?_, BF.out _ K6.out⟩
      have e : ansL c s m mine AG = (((([] ++ rvL c s m true) ++ ((btw mine s.ho s.so).map ofU ++ [AG])) ++ rvL c s m false) ++ (btw mine s.so (s.ours.n : Int)).map ofU) := by unfold ansL; rw [qL, HN.out]; rfl
      rw [e]
      exact OO.out.mono (by have := V6.out.z; omega)
    | false =>
      have OC : Hid (OutB BB gO (([] ++ rvL c s m true) ++ []) x2) := by have h := O2.out; rw [List.append_nil ([] ++ rvL c s m true)]; exact h
      have hl : ((([] ++ rvL c s m true) ++ []).length + 1) * 120 ≤ 140737488355328 := by
        have h1 := HLs.out; have h2 := HZ1.out; have h3 := HN.out; have h4 := btw_le mine s.ho s.so
        simp only [List.length_append, List.length_map, List.length_nil, List.length_cons]
        omega
      go_wp2_with fail
      refine (sendRev_any c s m w.heap.size w1.heap.size w2.heap.size gF gO BB w _ V2.out false _ (fun wx hb => HG.out wx hb) hl OC.out).mono ?_
      rintro e x8 ⟨rfl, ob, kb⟩
      clear hl
      have V3 := hide (V2.out.keep kb)
      have O3 := hide ob
      have K3 := hide (K2.out.trans kb)
      clear ob kb
      have cq1 : x8.cell? ⟨w1.heap.size, 11, none⟩ = some (.int .i64 s.so) := V3.out.s.cell 11 (by omega)
      have cq2 : x8.cell? ⟨w1.heap.size, 4, none⟩ = some (.slice s.ours.ad s.ours.n s.ours.c) := V3.out.s.cell 4 (by omega)
      have hl : (((([] ++ rvL c s m true) ++ []) ++ rvL c s m false).length + s.ours.n + 1) * 120 ≤ 140737488355328 := by
        have h1 := HLs.out; have h5 := HLf.out; have h2 := HZ1.out; have h3 := HN.out; have h4 := btw_le mine s.ho s.so
        simp only [List.length_append, List.length_map, List.length_nil, List.length_cons]
        omega
      go_wp2_with fail
      refine (sendUps_any c s m w.heap.size w1.heap.size w2.heap.size gF gO BB w _ V3.out s.so (s.ours.n : Int) mine _ HN.out HK1.out HU.out hl O3.out).mono ?_
      rintro e x9 ⟨rfl, ob, kb⟩
      clear hl cq1 cq2
      have V4 := hide (V3.out.keep kb)
      have O4 := hide ob
      have K4 := hide (K3.out.trans kb)
      clear ob kb
      obtain ⟨xo, ro, oo, _⟩ := O4.out
      have cq3 : x9.cell? ⟨gO, 0, none⟩ = some (.slice xo.ad xo.n xo.c) := ro.cell 0 (by omega)
      have OO := hide oo
      clear ro oo
      go_wp2
      go_ret2
      refine ⟨_, _, rfl, PYY.out _ (Sl.v xo) Msg.zero (fun h => by rw [qL] at h; cases h) ?_, BF.out _ K4.out⟩
      have e : ansL c s m mine Msg.zero = (((([] ++ rvL c s m true) ++ []) ++ rvL c s m false) ++ (btw mine s.so (s.ours.n : Int)).map ofU) := by unfold ansL; rw [qL, HN.out]; rfl
      rw [e]
      exact OO.out.mono (by have := V4.out.z; omega)
end Go.Proofs.YtmmcoedgoekhgaaGreatDoor
/-
  == OF TWO HASHES (picked out of record's texts by mkstate.sh); SameUpdates, same of the statements (made of update's same_any).
-/
namespace Go.Proofs.YtmmcoedgoekhgaaGreatDoor
open Go.RowKit S
set_option linter.unusedVariables false
set_option linter.unusedSimpArgs false
theorem guardPt : Tryz.prog.eqGuardType Tryz.prog.depth 24 = false := by kernel_rfl
theorem partPt (w : World) (a b : Nat → UInt8) : (part 23 (tabv (pv a b) 64) 0).run Tryz.prog w = .ok (.agg (tabv (bv a) 32)) w ∧ (part 23 (tabv (pv a b) 64) 32).run Tryz.prog w = .ok (.agg (tabv (bv b) 32)) w := by
  have hi : (Tryz.prog.info? 23).map (·.size) = some 32 := by kernel_rfl
  cases hq : Tryz.prog.info? 23 with
  | none => simp [hq] at hi
  | some i =>
    have hs : i.size = 32 := by simpa [hq] using hi
    have e1 : (tabv (pv a b) 64).extract 0 32 = tabv (bv a) 32 := by
      refine tabv_ext _ _ _ (by simp [tabv_size]) fun i hi => ?_
      rw [Array.getElem?_extract, tabv_get _ _ _ (by omega)]
      simp only [tabv_size]
      rw [if_pos (by omega)]
      unfold pv bv
      rw [if_pos (by omega), Nat.zero_add]
    have e2 : (tabv (pv a b) 64).extract 32 64 = tabv (bv b) 32 := by
      refine tabv_ext _ _ _ (by simp [tabv_size]) fun i hi => ?_
      rw [Array.getElem?_extract, tabv_get _ _ _ (by omega)]
      simp only [tabv_size]
      rw [if_pos (by omega)]
      unfold pv bv
      rw [if_neg (by omega), show 32 + i - 32 = i by omega]
    constructor
    · simp [part, isAgg, run_underlying Tryz.underlying23, sizeOf, typeInfo, hq, hs, e1]
    · simp [part, isAgg, run_underlying Tryz.underlying23, sizeOf, typeInfo, hq, hs, e2]
theorem eqItems2 (P : Program) (d : Nat) (T : TypeId) (w : World) (X Y : Array Value) (f g : Nat → Value) (E : Nat → Bool) (hX : ∀ i, i < 2 → (part T X (i * 32)).run P w = .ok (f i) w) (hY : ∀ i, i < 2 → (part T Y (i * 32)).run P w = .ok (g i) w) (hE : ∀ i, i < 2 → (Op.equalIn d T (f i) (g i)).run P w = .ok (E i) w) : ∀ is : List Nat, (∀ i ∈ is, i < 2) → (Op.eqItems d T 32 X Y is).run P w = .ok (is.all E) w
  | [], _ => by simp [Op.eqItems]
  | i :: is, h => by
    have hi := h i (by simp)
    have ih := eqItems2 P d T w X Y f g E hX hY hE is (fun j hj => h j (by simp [hj]))
    simp only [Op.eqItems, Sem.run_bind, hX i hi, hY i hi, hE i hi, Result.andThen_ok, List.all_cons]
    cases E i
    · simp
    · simpa using ih
theorem eqPt_d (d : Nat) (w : World) (a b c d' : Nat → UInt8) : (Op.equalIn (d + 3) 24 (.agg (tabv (pv a b) 64)) (.agg (tabv (pv c d') 64))).run Tryz.prog w = .ok (eqH a c && eqH b d') w := by
  obtain ⟨i, hi⟩ : ∃ i, Tryz.prog.info? 23 = some i := Option.isSome_iff_exists.1 (by kernel_rfl)
  have hc : Tryz.prog.cellsOf 23 = 32 := by kernel_rfl
  have h1 := run_equalIn_array w (d + 2) (tabv (pv a b) 64) (tabv (pv c d') 64) Tryz.underlying24 hi
  rw [hc] at h1
  have h2 := eqItems2 Tryz.prog (d + 2) 23 w (tabv (pv a b) 64) (tabv (pv c d') 64) (fun i => if i = 0 then .agg (tabv (bv a) 32) else .agg (tabv (bv b) 32)) (fun i => if i = 0 then .agg (tabv (bv c) 32) else .agg (tabv (bv d') 32)) (fun i => if i = 0 then eqH a c else eqH b d')
    (fun i hi => by
      rcases (show i = 0 ∨ i = 1 by omega) with e | e
      · rw [e, Nat.zero_mul, if_pos rfl]; exact (partPt w a b).1
      · rw [e, Nat.one_mul, if_neg (by omega)]; exact (partPt w a b).2)
    (fun i hi => by
      rcases (show i = 0 ∨ i = 1 by omega) with e | e
      · rw [e, Nat.zero_mul, if_pos rfl]; exact (partPt w c d').1
      · rw [e, Nat.one_mul, if_neg (by omega)]; exact (partPt w c d').2)
    (fun i hi => by
      rcases (show i = 0 ∨ i = 1 by omega) with e | e
      · rw [e, if_pos rfl, if_pos rfl, if_pos rfl]; exact eqHD d w _ _
      · rw [e, if_neg (by omega), if_neg (by omega), if_neg (by omega)]; exact eqHD d w _ _)
    (List.range 2) (fun i hi => List.mem_range.1 hi)
  refine h1.trans (h2.trans ?_)
  refine congrArg (fun b => Result.ok b w) ?_
  show (List.all [0, 1] _) = _
  simp only [List.all_cons, List.all_nil, if_pos, if_neg, Bool.and_true, Nat.one_ne_zero, if_false]
theorem eqPtD (w : World) (a b c d : Nat → UInt8) : (Op.equalIn 10000 24 (.agg (tabv (pv a b) 64)) (.agg (tabv (pv c d) 64))).run Tryz.prog w = .ok (eqH a c && eqH b d) w := eqPt_d 9997 w a b c d
theorem run_eqPt {o : Oper} {a : Act} (w : World) (x y : Operand) (A B : Array Value) (R : Bool) (ho : o.op = .binOp .eql 24 x y 24) (hx : a.eval x = .agg A) (hy : a.eval y = .agg B)
    (hq : ∀ w : World, (Op.equalIn 10000 24 (.agg A) (.agg B)).run Tryz.prog w = .ok R w) : (execOp a.eval o).run Tryz.prog w = .ok (.value (.bool R)) w := by
  have gh := guardPt
  unfold execOp
  simp only [ho, hx, hy]
  go_simp
theorem wpW_eqPt {ops : Array Oper} {rest : List Oper} {o : Oper} {a : Act} {w : World} {Q : Exit → Act → World → Prop} (hw : Region.wanted o (yielded ops a.tmps) = true) (x y : Operand) (ho : o.op = .binOp .eql 24 x y 24) (A B : Array Value) (R : Bool) (hx : a.eval x = .agg A) (hy : a.eval y = .agg B)
    (hq : ∀ w : World, (Op.equalIn 10000 24 (.agg A) (.agg B)).run Tryz.prog w = .ok R w) (k : wpList Tryz.prog ops Q rest (a.put o.dst (.bool R)) w) : wpList Tryz.prog ops Q (o :: rest) a w := by
  refine wpList_step fun K hK => ?_
  rw [if_pos hw]
  exact wpRun (run_eqPt w x y A B R ho hx hy hq) (hK _ _ k)
theorem Has.atPts {w : World} {g : Nat} {s : St} (h : Has w g 32 s.v 115) : At w g 16 (pv s.p0 s.p1) 64 := fun j hj => by
  rw [h.cell (16 + j) (by omega)]
  unfold pv
  by_cases e : j < 32
  · rw [if_pos e]; exact congrArg some (St.v_p0 s j e)
  · rw [if_neg e]
    have := St.v_p1 s (j - 32) (by omega)
    rw [show 48 + (j - 32) = 16 + j by omega] at this
    exact congrArg some this
set_option maxRecDepth 100000 in
set_option maxHeartbeats 4000000 in
theorem sameUps_any (ad1 ad2 : Option Addr) (n c1 c2 : Nat) (l : List Upd) (hn : l.length = n) (hz : n ≤ 140737488351232) (w : World) (h1 : Upds w ad1 l) (h2 : Upds w ad2 l) : Calls Tryz.prog 59 #[.slice ad1 n c1, .slice ad2 n c2] w fun e w' => e = .returned (.bool true) ∧ Below w.heap.size w w' := by
  have hni : (n : Int) ≤ 140737488351232 := by omega
  have hd0 : ((n : Int) != (n : Int)) = false := by simp
  have hgs := guardU
  have HN := hide hn
  clear hn
  go_enter Tryz.func59, Tryz.ntmps59
  go_wp2
  go_loopw [5] (fun i wr => ∃ j : Nat, j ≤ n ∧ i = .int .i64 (j : Int) ∧ Below w.heap.size w wr) (fun i _ => n - (intOf i).toNat)
  case atStart => exact ⟨0, Nat.zero_le _, rfl, Below.refl _ _⟩
  case round =>
    obtain ⟨j, hj, rfl, hwk⟩ := hrel
    have h1' := h1.below hwk
    have h2' := h2.below hwk
    by_cases hlt : j < n
    · have hd : decide ((j : Int) < (n : Int)) = true := decide_eq_true (by omega)
      have hd2 : decide (j < n) = true := decide_eq_true hlt
      have hk0 : (0 : Int) ≤ (j : Int) := by omega
      have hk1 : (j : Int) < (n : Int) := by omega
      obtain ⟨s, hs⟩ : ∃ s, l[j]? = some s := ⟨_, List.getElem?_eq_getElem (by rw [HN.out]; exact hlt)⟩
      obtain ⟨b1, o1, rfl, hb1, hA1⟩ := h1'.get j s hs
      obtain ⟨b2, o2, rfl, hb2, hA2⟩ := h2'.get j s hs
      have hqs : ∀ w : World, (Op.equalIn 10000 34 (.agg (tabv s.v 36)) (.agg (tabv s.v 36))).run Tryz.prog w = .ok true w := fun w => by rw [eqUD, eqU_refl]
      have HA1 := hide hA1
      have HA2 := hide hA2
      clear hA1 hA2 hb1 hb2 hs h1' h2'
      go_wp2
      refine wp_region_quiet_lit (by kernel_rfl) (by kernel_rfl) ?_
      iterate 3 (go_big_quiet_step (fail))
      go_big_quiet_want
      refine quiet_value (fun w' hw' => run_load_at w' 34 _ rfl b1 (o1 + j * 36) (by rfl) (s.v) 36 _ (by obtain ⟨m, rfl⟩ := hw'; exact HA1.out) Tryz.underlying34 rfl infoU) ?_
      simp only [Act.put, List.setIfInBounds_toArray, List.set_cons_succ, List.set_cons_zero]
      go_big_quiet_on
      iterate 3 (go_big_quiet_step (fail))
      go_big_quiet_want
      refine quiet_value (fun w' hw' => run_load_at w' 34 _ rfl b2 (o2 + j * 36) (by rfl) (s.v) 36 _ (by obtain ⟨m, rfl⟩ := hw'; exact HA2.out) Tryz.underlying34 rfl infoU) ?_
      simp only [Act.put, List.setIfInBounds_toArray, List.set_cons_succ, List.set_cons_zero]
      go_big_quiet_on
      iterate 1 (go_big_quiet_step (fail))
      refine wpQuiet_nil ?_
      intro _ hw'
      obtain ⟨nq, rfl⟩ := hw'
      go_wp2
      go_roundw
      case rel => exact ⟨j + 1, by omega, by go_num, belowD hwk nq⟩
      case measure => simp [intOf]; omega
    · have hjn : j = n := by omega
      subst hjn
      have hd : decide ((j : Int) < (j : Int)) = false := decide_eq_false (by omega)
      have hd2 : decide (j < j) = false := decide_eq_false (by omega)
      go_wp2
      go_ret
      exact ⟨by simp, hwk⟩
set_option maxRecDepth 100000 in
set_option maxHeartbeats 4000000 in
theorem sameMs_any (ad1 ad2 : Option Addr) (n c1 c2 : Nat) (l : List Msg) (hn : l.length = n) (hz : n ≤ 140737488351232) (w : World) (h1 : Msgs w ad1 l) (h2 : Msgs w ad2 l) : Calls Tryz.prog 77 #[.slice ad1 n c1, .slice ad2 n c2] w fun e w' => e = .returned (.bool true) ∧ Below w.heap.size w w' := by
  have hni : (n : Int) ≤ 140737488351232 := by omega
  have hd0 : ((n : Int) != (n : Int)) = false := by simp
  have hgs := guardM
  have HN := hide hn
  clear hn
  go_enter Tryz.func77, Tryz.ntmps77
  go_wp2
  go_loopw [5] (fun i wr => ∃ j : Nat, j ≤ n ∧ i = .int .i64 (j : Int) ∧ Below w.heap.size w wr) (fun i _ => n - (intOf i).toNat)
  case atStart => exact ⟨0, Nat.zero_le _, rfl, Below.refl _ _⟩
  case round =>
    obtain ⟨j, hj, rfl, hwk⟩ := hrel
    have h1' := h1.below hwk
    have h2' := h2.below hwk
    by_cases hlt : j < n
    · have hd : decide ((j : Int) < (n : Int)) = true := decide_eq_true (by omega)
      have hd2 : decide (j < n) = true := decide_eq_true hlt
      have hk0 : (0 : Int) ≤ (j : Int) := by omega
      have hk1 : (j : Int) < (n : Int) := by omega
      obtain ⟨s, hs⟩ : ∃ s, l[j]? = some s := ⟨_, List.getElem?_eq_getElem (by rw [HN.out]; exact hlt)⟩
      obtain ⟨b1, o1, rfl, hb1, hA1⟩ := h1'.get j s hs
      obtain ⟨b2, o2, rfl, hb2, hA2⟩ := h2'.get j s hs
      have hqs : ∀ w : World, (Op.equalIn 10000 36 (.agg (tabv s.v 70)) (.agg (tabv s.v 70))).run Tryz.prog w = .ok true w := fun w => by rw [eqMD, eqM_refl]
      have HA1 := hide hA1
      have HA2 := hide hA2
      clear hA1 hA2 hb1 hb2 hs h1' h2'
      go_wp2
      refine wp_region_quiet_lit (by kernel_rfl) (by kernel_rfl) ?_
      iterate 3 (go_big_quiet_step (fail))
      go_big_quiet_want
      refine quiet_value (fun w' hw' => run_load_at w' 36 _ rfl b1 (o1 + j * 70) (by rfl) (s.v) 70 _ (by obtain ⟨m, rfl⟩ := hw'; exact HA1.out) Tryz.underlying36 rfl infoM) ?_
      simp only [Act.put, List.setIfInBounds_toArray, List.set_cons_succ, List.set_cons_zero]
      go_big_quiet_on
      iterate 3 (go_big_quiet_step (fail))
      go_big_quiet_want
      refine quiet_value (fun w' hw' => run_load_at w' 36 _ rfl b2 (o2 + j * 70) (by rfl) (s.v) 70 _ (by obtain ⟨m, rfl⟩ := hw'; exact HA2.out) Tryz.underlying36 rfl infoM) ?_
      simp only [Act.put, List.setIfInBounds_toArray, List.set_cons_succ, List.set_cons_zero]
      go_big_quiet_on
      iterate 1 (go_big_quiet_step (fail))
      refine wpQuiet_nil ?_
      intro _ hw'
      obtain ⟨nq, rfl⟩ := hw'
      go_wp2
      go_roundw
      case rel => exact ⟨j + 1, by omega, by go_num, belowD hwk nq⟩
      case measure => simp [intOf]; omega
    · have hjn : j = n := by omega
      subst hjn
      have hd : decide ((j : Int) < (j : Int)) = false := decide_eq_false (by omega)
      have hd2 : decide (j < j) = false := decide_eq_false (by omega)
      go_wp2
      go_ret
      exact ⟨by simp, hwk⟩
end Go.Proofs.YtmmcoedgoekhgaaGreatDoor
