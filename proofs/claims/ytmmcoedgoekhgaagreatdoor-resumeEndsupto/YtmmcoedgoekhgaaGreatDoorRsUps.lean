/-
  resume: sendUpdates, sendRevocation (printed by gen_e3.py).
-/
import Derived.Test.YtmmcoedgoekhgaaGreatDoorDReveal
import Derived.Test.YtmmcoedgoekhgaaGreatDoorDReveal
import Derived.Test.YtmmcoedgoekhgaaGreatDoorDReveal
import Derived.Test.YtmmcoedgoekhgaaGreatDoorGLast
import Derived.Deep.CutRange
namespace Go.Proofs.YtmmcoedgoekhgaaGreatDoor
open Go.RowKit S
set_option linter.unusedVariables false
set_option linter.unusedSimpArgs false
/-- The updates from one number to another. -/
def btw (l : List Upd) (a b : Int) : List Upd := (l.drop (btwLo a b l.length)).take (btwHi b l.length - btwLo a b l.length)
theorem btw_len (l : List Upd) (a b : Int) : (btw l a b).length = btwHi b l.length - btwLo a b l.length := by
  unfold btw
  rw [List.length_take, List.length_drop]
  unfold btwHi
  omega
theorem wrap_eq (x : Int) : IntKind.i64.wrap x = wrap64 x := by first | rfl | (rw [IntKind.wrap_i64]; rfl) | (unfold wrap64; rw [IntKind.wrap_i64]) | (rw [IntKind.wrap_i64]; unfold wrap64; omega)
theorem ups_len (l : List Msg) (sub : List Upd) (j n : Nat) (h1 : sub.length ≤ n) (h2 : (l.length + n + 1) * 120 ≤ 140737488355328) : ((l ++ (sub.take j).map ofU).length + 1) * 120 ≤ 140737488355328 := by
  have e : (l ++ (sub.take j).map ofU).length ≤ l.length + n := by
    rw [List.length_append, List.length_map, List.length_take]
    exact Nat.add_le_add_left (Nat.le_trans (Nat.min_le_right _ _) h1) _
  exact Nat.le_trans (Nat.mul_le_mul_right 120 (Nat.add_le_add_right e 1)) h2
/-- The variables of Answer that its functions hold. -/
structure CV (c : Cf) (s : St) (m : Msg) (gC gS gM gF g B : Nat) (w0 w : World) : Prop where
  c : Has w gC 26 c.v 164
  s : Has w gS 32 s.v 115
  m : Has w gM 36 m.v 70
  f : Has w gF 121 (fun _ => .func (.func 80) #[] #[.pointer (some ⟨g, 0, none⟩)]) 1
  b : Below w0.heap.size w0 w
  z : w0.heap.size ≤ gC ∧ gC < g ∧ gS < g ∧ gM < g ∧ g < gF ∧ gF < B ∧ B ≤ w.heap.size
theorem CV.keep {c : Cf} {s : St} {m : Msg} {gC gS gM gF g B : Nat} {w0 w w' : World} (h : CV c s m gC gS gM gF g B w0 w) (k : KpO B g w w') : CV c s m gC gS gM gF g B w0 w' := by
  obtain ⟨h1, h2, h3, h4, h5, h6⟩ := h
  exact ⟨k.has h1 (by omega) (by omega), k.has h2 (by omega) (by omega), k.has h3 (by omega) (by omega), k.has h4 (by omega) (by omega), h5.trans (k.low (by omega) (by omega)), by have := k.size; omega⟩
theorem CV.low {c : Cf} {s : St} {m : Msg} {gC gS gM gF g B : Nat} {w0 w w' : World} (h : CV c s m gC gS gM gF g B w0 w) (k : Below w.heap.size w w') : CV c s m gC gS gM gF g B w0 w' := h.keep (KpO.of k h.z.2.2.2.2.2.2)
set_option maxRecDepth 100000 in
set_option maxHeartbeats 40000000 in
theorem sendUps_any (c : Cf) (s : St) (m : Msg) (gC gS gM gF g B : Nat) (w0 w : World) (hV : CV c s m gC gS gM gF g B w0 w) (a b : Int) (mine : List Upd) (l : List Msg) (hn : mine.length = s.ours.n) (hc : s.ours.n ≤ s.ours.c) (hU : Upds w0 s.ours.ad mine) (hz : (l.length + s.ours.n + 1) * 120 ≤ 140737488355328) (h : OutB B g l w) : Calls Tryz.prog 81 #[.int .i64 a, .int .i64 b, .pointer (some ⟨gS, 0, none⟩), .pointer (some ⟨gF, 0, none⟩)] w fun e w' => e = .returned (.tuple #[]) ∧ OutB B g (l ++ (btw mine a b).map ofU) w' ∧ KpO B g w w' := by
  have HB := hide (fun wx : World => between_any s.ours.ad s.ours.n s.ours.c hc a b wx)
  have hUs : ∀ wx, Below w0.heap.size w0 wx → Upds wx (dropAd s.ours.ad s.ours.c (btwLo a b s.ours.n)) (btw mine a b) := fun wx hb => by
    unfold btw
    rw [hn]
    exact ((hU.below hb).drop s.ours.c _ (by omega)).take _
  have hln : (btw mine a b).length = btwHi b s.ours.n - btwLo a b s.ours.n := by rw [btw_len, hn]
  have hle : (btw mine a b).length ≤ s.ours.n := by rw [hln]; unfold btwHi; omega
  generalize btw mine a b = sub at hUs hln hle ⊢
  generalize btwHi b s.ours.n - btwLo a b s.ours.n = cnt at hln HB
  generalize dropAd s.ours.ad s.ours.c (btwLo a b s.ours.n) = DA at hUs HB
  generalize s.ours.c - btwLo a b s.ours.n = CA at HB
  subst hln
  have c4 : w.cell? ⟨gS, 4, none⟩ = some (.slice s.ours.ad s.ours.n s.ours.c) := hV.s.cell 4 (by omega)
  have HV := hide hV
  have HU := hide hUs
  have HO := hide h
  have HZ := hide hz
  have HLE := hide hle
  clear hV hUs h hz hn hc hU hle
  go_enter Tryz.func81, Tryz.ntmps81
  go_wp2_with fail
  refine (HB.out _).mono ?_
  rintro e y1 ⟨rfl, hx⟩
  obtain rfl := hx
  clear c4 HB
  go_wp2
  go_loopw [14] (fun ix wr => ∃ j : Nat, j ≤ sub.length ∧ ix = .int .i64 (j : Int) ∧ Hid (OutB B g (l ++ (sub.take j).map ofU) wr ∧ KpO B g w wr)) (fun ix _ => sub.length - (intOf ix).toNat)
  case atStart => exact ⟨0, Nat.zero_le _, rfl, ⟨by rw [List.take_zero, List.map_nil, List.append_nil]; exact HO.out, KpO.refl _ _ _⟩⟩
  case round =>
    obtain ⟨j, hj, rfl, KW⟩ := hrel
    by_cases hlt : j < sub.length
    · have hd : decide ((j : Int) < (sub.length : Int)) = true := decide_eq_true (by omega)
      have hd2 : decide (j < sub.length) = true := decide_eq_true hlt
      have hp1 : (0 : Int) ≤ (j : Int) := by omega
      have hp2 : (j : Int) < (sub.length : Int) := by omega
      have zj : IntKind.i64.wrap ((j : Int) + 1) = (j : Int) + 1 := by rw [IntKind.wrap_i64]; have h1 := HLE.out; have h2 := HZ.out; omega
      obtain ⟨u, hu⟩ : ∃ u, sub[j]? = some u := ⟨_, List.getElem?_eq_getElem hlt⟩
      have V1 := hide (HV.out.keep KW.out.2)
      obtain ⟨bk, of, rfl, hbk, hA⟩ := (HU.out wr V1.out.b).get j u hu
      have HT := hide (show l ++ (sub.take (j + 1)).map ofU = (l ++ (sub.take j).map ofU) ++ [ofU u] by rw [List.append_assoc, take_snoc hu, List.map_append]; rfl)
      have HS1 := hide (ups_len l sub j _ HLE.out HZ.out)
      have AA := hide hA
      have HJ := hide hlt
      obtain ⟨U1, U2, hU1, rU1, hU2, rU2, hbU⟩ := newU wr u
      have RU1 := hide rU1
      have RU2 := hide rU2
      have V2 := hide (V1.out.low hbU)
      have O2 := hide (KW.out.1.below hbU)
      have K2 := hide (KW.out.2.trans (KpO.of hbU V1.out.z.2.2.2.2.2.2))
      clear rU1 rU2 hbU hA hu hlt hj hbk
      go_upto_region 3 with (first | rw [hU1] | refine wpW_load_at 34 _ rfl bk (of + j * 36) (by rfl) (by rfl) _ 36 _ AA.out Tryz.underlying34 rfl infoU ?_ | (refine wpList_storeU rfl _ _ rfl rfl wr.heap.size u rfl rfl _ RU1.out ?_; rw [hU2]) | fail)
      try rw [hU2]
      clear hU1 hU2 RU1
      refine wp_region_noPanic ?_
      refine wp_region_T (S := fun wx => Below U2.heap.size U2 wx) 3 (by kernel_rfl) ((Below.refl _ _).drew) (fun hHeld => ?_)
      generalize hwd : World.drew _ = wd at hHeld ⊢
      refine takeT 0 (some 18) (.func (.func 80) #[] #[.pointer (some ⟨g, 0, none⟩)]) rfl rfl (by kernel_rfl) (by kernel_rfl) (by kernel_rfl) (by kernel_rfl) (by decide) (fun _ _ _ h => h) (by rfl) (fun w_ hw => by have c : World.cell? _ ⟨gF, 0, none⟩ = some (.func (.func 80) #[] #[.pointer (some ⟨g, 0, none⟩)]) := (V2.out.f.below hw V2.out.f.lt).cell 0 (by omega); first | rfl | (go_simp; done) | (go_simp; rfl)) hHeld ?_
      simp only [Act.put, List.setIfInBounds_toArray, List.set_cons_zero, List.set_cons_succ]
      refine takeP [2] 1 (some 19) (.agg (tabv u.v 36)) rfl rfl (by kernel_rfl) (by kernel_rfl) (by kernel_rfl) (by kernel_rfl) (by kernel_rfl) (by decide) (fun _ _ _ h => h) (by rfl) (fun w_ hw => run_load_at w_ 34 _ rfl (wr.heap.size) 0 (by rfl) _ 36 _ ((RU2.out.below hw RU2.out.lt).at_ 0 (by omega) (fun i hi => by rw [Nat.zero_add])) Tryz.underlying34 rfl infoU) hHeld ?_
      simp only [Act.put, List.setIfInBounds_toArray, List.set_cons_zero, List.set_cons_succ]
      refine readyT 2 (by kernel_rfl) rfl (by rfl) (fun K hK => ?_)
      go_simp
      refine (of_any u _).mono ?_
      rintro e ya ⟨rfl, hbq⟩
      try go_wp2_with fail
      refine hK.out _ _ (fun _ => hHeld.trans (hbq.mono hHeld.size)) (fun hH => ?_)
      clear hHeld
      have hHeld := hH (by decide)
      clear hK hH hbq
      refine readyT 3 (by kernel_rfl) rfl (by rfl) (fun K hK => ?_)
      go_simp
      refine (send_any (ofU u) g B (l ++ (sub.take j).map ofU) HS1.out _ (O2.out.below hHeld) (by have h1 := V2.out.z; have h2 := hHeld.size; omega)).mono ?_
      rintro e yb ⟨rfl, ob, kb⟩
      try go_wp2_with fail
      rw [← HT.out] at ob
      have KN : Hid (OutB B g (l ++ (sub.take (j + 1)).map ofU) yb ∧ KpO B g w yb) := ⟨ob, (K2.out.trans (KpO.of hHeld V2.out.z.2.2.2.2.2.2)).trans kb⟩
      refine hK.out _ _ (fun x => absurd rfl x) (fun _ => ?_)
      clear hK ob kb hHeld hwd
      refine ⟨by kernel_rfl, ?_⟩
      refine NoPanic.normal ?_
      go_wp2
      go_roundw
      case rel => exact ⟨j + 1, by have := HJ.out; omega, by go_num, KN⟩
      case measure => have := HJ.out; simp [intOf]; omega
    · have hjn : j = sub.length := by omega
      have hd : decide ((j : Int) < (sub.length : Int)) = false := decide_eq_false (by omega)
      have hd2 : decide (j < sub.length) = false := decide_eq_false hlt
      have KE : Hid (OutB B g (l ++ sub.map ofU) wr ∧ KpO B g w wr) := ⟨by have h := KW.out.1; rw [List.take_of_length_le (by omega)] at h; exact h, KW.out.2⟩
      clear KW hlt hj hjn
      go_wp2
      skip
      go_end0
      exact ⟨rfl, KE.out.1, KE.out.2⟩
/-- Is the revocation told here? -/
def rvB (s : St) (m : Msg) (b : Bool) : Bool := (m.nxt == wrap64 (s.loc - 1)) && (s.beh == b)
def rvL (c : Cf) (s : St) (m : Msg) (b : Bool) : List Msg := bif rvB s m b then [revealA c (wrap64 (s.loc - 1))] else []
set_option maxRecDepth 100000 in
set_option maxHeartbeats 40000000 in
theorem sendRev_any (c : Cf) (s : St) (m : Msg) (gC gS gM gF g B : Nat) (w0 w : World) (hV : CV c s m gC gS gM gF g B w0 w) (bb : Bool) (l : List Msg) (hG : ∀ wx, Below w0.heap.size w0 wx → Glob num wx) (hz : (l.length + 1) * 120 ≤ 140737488355328) (h : OutB B g l w) : Calls Tryz.prog 84 #[.bool bb, .pointer (some ⟨gM, 0, none⟩), .pointer (some ⟨gS, 0, none⟩), .pointer (some ⟨gF, 0, none⟩), .pointer (some ⟨gC, 0, none⟩)] w fun e w' => e = .returned (.tuple #[]) ∧ OutB B g (l ++ rvL c s m bb) w' ∧ KpO B g w w' := by
  have HV := hide hV
  have HO := hide h
  have HR := hide (fun wx (hb : Below w0.heap.size w0 wx) => reveal_any num c (wrap64 (s.loc - 1)) wx (hG wx hb))
  have cN : w.cell? ⟨gM, 4, none⟩ = some (.int .i64 m.nxt) := hV.m.cell 4 (by omega)
  have cL : w.cell? ⟨gS, 6, none⟩ = some (.int .i64 s.loc) := hV.s.cell 6 (by omega)
  have cB : w.cell? ⟨gS, 15, none⟩ = some (.bool s.beh) := hV.s.cell 15 (by omega)
  have cL2 : ∀ wx, Below w.heap.size w wx → wx.cell? ⟨gS, 6, none⟩ = some (.int .i64 s.loc) := fun wx hb => (hV.s.below hb hV.s.lt).cell 6 (by omega)
  unfold rvL rvB
  generalize revealA c (wrap64 (s.loc - 1)) = RM at HR ⊢
  generalize m.nxt = nx at cN ⊢
  generalize s.beh = be at cB ⊢
  generalize s.loc = lo at cL cL2 HR ⊢
  replace cL2 := hide cL2
  clear hV h hG
  obtain ⟨RL, hRL⟩ : ∃ x, (bif ((nx == wrap64 (lo - 1)) && (be == bb)) then [RM] else []) = x := ⟨_, rfl⟩
  rw [hRL]
  replace hRL := hide hRL
  go_enter Tryz.func84, Tryz.ntmps84
  cases q1 : (nx == wrap64 (lo - 1)) with
  | false =>
    obtain rfl : RL = [] := by have h := hRL.out; rw [q1] at h; exact h.symm
    go_wp2
    go_end0
    exact ⟨rfl, by rw [List.append_nil]; exact HO.out, KpO.refl _ _ _⟩
  | true =>
    cases q2 : (be == bb) with
    | false =>
      obtain rfl : RL = [] := by have h := hRL.out; rw [q1, q2] at h; exact h.symm
      go_wp2
      go_end0
      exact ⟨rfl, by rw [List.append_nil]; exact HO.out, KpO.refl _ _ _⟩
    | true =>
      obtain rfl : RL = [RM] := by have h := hRL.out; rw [q1, q2] at h; exact h.symm
      go_upto_region 1 with fail
      clear cN cL cB q1 q2 hRL
      refine wp_region_noPanic ?_
      refine wp_region_T (S := fun wx => Below w.heap.size w wx) 6 (by kernel_rfl) ((Below.refl _ _).drew) (fun hHeld => ?_)
      generalize hwd : World.drew _ = wd at hHeld ⊢
      refine takeT 0 (some 18) (.func (.func 80) #[] #[.pointer (some ⟨g, 0, none⟩)]) rfl rfl (by kernel_rfl) (by kernel_rfl) (by kernel_rfl) (by kernel_rfl) (by decide) (fun _ _ _ h => h) (by rfl) (fun w_ hw => by have c : World.cell? _ ⟨gF, 0, none⟩ = some (.func (.func 80) #[] #[.pointer (some ⟨g, 0, none⟩)]) := (HV.out.f.below hw HV.out.f.lt).cell 0 (by omega); first | rfl | (go_simp; done) | (go_simp; rfl)) hHeld ?_
      simp only [Act.put, List.setIfInBounds_toArray, List.set_cons_zero, List.set_cons_succ]
      refine takeP [5] 1 (some 19) (.agg (tabv c.v 164)) rfl rfl (by kernel_rfl) (by kernel_rfl) (by kernel_rfl) (by kernel_rfl) (by kernel_rfl) (by decide) (fun _ _ _ h => h) (by rfl) (fun w_ hw => run_load_at w_ 26 _ rfl (gC) 0 (by rfl) _ 164 _ ((HV.out.c.below hw HV.out.c.lt).at_ 0 (by omega) (fun i hi => by rw [Nat.zero_add])) Tryz.underlying26 rfl infoCf) hHeld ?_
      simp only [Act.put, List.setIfInBounds_toArray, List.set_cons_zero, List.set_cons_succ]
      refine takeP [5, 4, 3] 2 (some 20) (.pointer (some ⟨gS, 6, none⟩)) rfl rfl (by kernel_rfl) (by kernel_rfl) (by kernel_rfl) (by kernel_rfl) (by kernel_rfl) (by decide) (fun _ _ _ h => h) (by rfl) (fun w_ hw => by first | rfl | (go_simp; done) | (go_simp; rfl) | (go_simp; omega)) hHeld ?_
      simp only [Act.put, List.setIfInBounds_toArray, List.set_cons_zero, List.set_cons_succ]
      refine takeP [5, 4] 3 (some 21) (.int .i64 lo) rfl rfl (by kernel_rfl) (by kernel_rfl) (by kernel_rfl) (by kernel_rfl) (by kernel_rfl) (by decide) (fun _ _ _ h => h) (by rfl) (fun w_ hw => by have c := cL2.out _ hw; first | rfl | (go_simp; done) | (go_simp; rfl)) hHeld ?_
      simp only [Act.put, List.setIfInBounds_toArray, List.set_cons_zero, List.set_cons_succ]
      refine takeP [5] 4 (some 22) (.int .i64 (wrap64 (lo - 1))) rfl rfl (by kernel_rfl) (by kernel_rfl) (by kernel_rfl) (by kernel_rfl) (by kernel_rfl) (by decide) (fun _ _ _ h => h) (by rfl) (fun w_ hw => by have e : IntKind.i64.wrap (lo - 1) = wrap64 (lo - 1) := wrap_eq _; first | rfl | (go_simp; done) | (go_simp; rfl)) hHeld ?_
      simp only [Act.put, List.setIfInBounds_toArray, List.set_cons_zero, List.set_cons_succ]
      refine readyT 5 (by kernel_rfl) rfl (by rfl) (fun K hK => ?_)
      go_simp
      refine (HR.out _ (HV.out.b.trans (hHeld.mono HV.out.b.size))).mono ?_
      rintro e ya ⟨rfl, hbq⟩
      try go_wp2_with fail
      refine hK.out _ _ (fun _ => hHeld.trans (hbq.mono hHeld.size)) (fun hH => ?_)
      clear hHeld
      have hHeld := hH (by decide)
      clear hK hH hbq
      refine readyT 6 (by kernel_rfl) rfl (by rfl) (fun K hK => ?_)
      go_simp
      refine (send_any RM g B l hz _ (HO.out.below hHeld) (by have h1 := HV.out.z; have h2 := hHeld.size; omega)).mono ?_
      rintro e yb ⟨rfl, ob, kb⟩
      try go_wp2_with fail
      have KN := hide ((KpO.of hHeld HV.out.z.2.2.2.2.2.2).trans kb)
      have ON := hide ob
      refine hK.out _ _ (fun x => absurd rfl x) (fun _ => ?_)
      clear hK ob kb hHeld hwd
      refine ⟨by kernel_rfl, ?_⟩
      refine NoPanic.normal ?_
      go_wp2
      go_end0
      exact ⟨rfl, ON.out, KN.out⟩
end Go.Proofs.YtmmcoedgoekhgaaGreatDoor
