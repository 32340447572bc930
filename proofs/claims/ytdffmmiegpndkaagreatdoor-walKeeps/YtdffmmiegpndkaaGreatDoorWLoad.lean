/-
  load (printed by gen_load.py).
-/
import Derived.Test.YtdffmmiegpndkaaGreatDoorWAgainP
namespace Go.Proofs.YtdffmmiegpndkaaGreatDoor
open Go.RowKit Go.Maps
set_option linter.unusedVariables false
set_option linter.unusedSimpArgs false
section
variable {B : Nat} {w : World} {L : List Item} {i j l p : Nat} {A : AD} {g : AL}
theorem addr_addK (b o K : Nat) : (⟨b, o, none⟩ : Addr).add K = ⟨b, o + K, none⟩ := by
  unfold Addr.add
  split
  · rename_i h; rw [h]; rfl
  · rfl
theorem found_read {nm : Key} {n : Int} (hoff : A.pow.off = false) (h : n ∈ numsL A nm) : (A.read (fileL nm n) 0 1048576).2 = 0 := by
  have h1 : n ∈ foundL A nm := (List.mergeSort_perm _ _).mem_iff.1 h
  obtain ⟨f, hf, hn⟩ := List.mem_filterMap.1 h1
  have e := numOf_file hn
  subst e
  unfold AD.list at hf
  rw [hoff] at hf
  simp only [Bool.false_eq_true, if_false] at hf
  obtain ⟨F, hF⟩ : ∃ F, fget A.fs (fileL nm n) = some F := by
    cases hc : fget A.fs (fileL nm n) with
    | some F => exact ⟨F, rfl⟩
    | none =>
      obtain ⟨q, hq, e⟩ := List.mem_map.1 hf
      exact absurd e (fget_none_iff.1 hc q hq)
  unfold AD.read
  rw [hoff, hF]
  simp
def RESTA (g : AL) (A : AD) (SG : List ASeg) (PAY : List Key) (PN : Nat) (torn : Bool) (first NX : Int) : List Key × Int × AD × AL :=
  let g3 : AL := { g with segs := SG, next := NX }
  if first < NX - PN ∨ NX < first then ([], 60, A, g3)
  else
    let T := if torn = true then A.trunc (fileL g.name.data.toList (SG.getLastD ⟨0, 0, 0⟩).num) (SG.getLastD ⟨0, 0, 0⟩).size else (0, A)
    if T.1 ≠ 0 then ([], T.1, T.2, g3)
    else if (T.2.syncs g3.files).1 ≠ 0 then ([], (T.2.syncs g3.files).1, (T.2.syncs g3.files).2, g3)
    else (PAY.drop (first - (NX - PN)).toNat, 0, (T.2.syncs g3.files).2, g3)
set_option maxRecDepth 100000 in
set_option maxHeartbeats 8000000 in
theorem load_any (h : Lies B w L) (hi : L[i]? = some (.disk p A)) (hj : L[j]? = some (.log l p g)) (hij : i ≠ j) (he : Env B w) (hg0 : g.segs = []) (hnx : g.next = 0) (hnm : g.name.size ≤ 24) (hoff : A.pow.off = false) (first : Int) (hf : 0 ≤ first ∧ first ≤ 1152921504606846976) (Z : List Key × Int × AD × AL) (hZ : loadA A g first = Z) :
    Calls Tryz.prog 21 #[.pointer (some ⟨l, 0, none⟩), .int .i64 first] w fun e w' => ∃ v, e = .returned (.tuple #[v, .int .i64 Z.2.1]) ∧ (Z.2.1 ≠ 0 → v = .slice none 0 0) ∧ Lies B w' (((L.set i (.disk p Z.2.2.1)).set j (.log l p Z.2.2.2)) ++ [.sub v Z.1]) ∧ Below B w w' := by
  have hok := h.ok hi
  have hil := (List.getElem?_eq_some_iff.1 hi).1
  have hjl := (List.getElem?_eq_some_iff.1 hj).1
  obtain ⟨ns, hns⟩ : ∃ x, numsL A g.name.data.toList = x := ⟨_, rfl⟩
  have hfi := wfind_any h hi hj hg0 hnm he
  rw [hns] at hfi
  have HNIL : Hid (∀ (g' : AL) (A' : AD) (W : World) (e : Int), Z = ([], e, A', g') → e ≠ 0 → Lies B W ((L.set i (.disk p A')).set j (.log l p g')) → Below B w W → ∃ v, Ending.returned (.tuple #[.slice none 0 0, .int .i64 e]) = .returned (.tuple #[v, .int .i64 Z.2.1]) ∧ (Z.2.1 ≠ 0 → v = .slice none 0 0) ∧ Lies B W (((L.set i (.disk p Z.2.2.1)).set j (.log l p Z.2.2.2)) ++ [.sub v Z.1]) ∧ Below B w W) := fun g' A' W e hz hne hl hb => by
    rw [hz]
    refine ⟨_, rfl, fun _ => rfl, ?_, hb⟩
    have h1 := hl.pushNil 9
    obtain ⟨ad, cap, hv, _, _, _, _, h2⟩ := h1.toSub (q := ((L.set i (.disk p A')).set j (.log l p g')).length + 0) (xs := []) (by rw [get_tail]; rfl) 0 (Nat.le_refl _)
    cases hv
    rw [List.set_append_right _ _ (by omega), Nat.add_sub_cancel_left] at h2
    exact h2
  have HI0 : Hid (∀ (W : World) (g' : AL), Lies B W (L.set j (.log l p g')) → Lies B W ((L.set i (.disk p A)).set j (.log l p g'))) := fun W g' hl => by rw [hset_keep hi]; exact hl
  have HFI := hide hfi
  have HZ := hide hZ
  have HENV := hide he
  cases hco : consec ns with
  | false =>
    rw [hco] at HFI
    have hZZ : Z = ([], 60, A, { g with segs := ns.map seg0 }) := by rw [← hZ]; unfold loadA; simp only; rw [hns, if_pos hco]
    have HZZ := hide hZZ
    clear h hi hj hfi hZ he hco hZZ
    go_enter Tryz.func21, Tryz.ntmps21
    go_wp2_with fail
    refine (HFI.out).mono ?_
    rintro e W1 ⟨rfl, hl1, hb1⟩
    have HL1 := hide hl1
    have HB1 := hide hb1
    clear hl1 hb1
    go_wp2
    go_ret2
    exact HNIL.out _ _ _ _ HZZ.out (by decide) (HI0.out _ _ HL1.out) HB1.out
  | true =>
    rw [hco] at HFI
    have hi1 : (L.set j (.log l p { g with segs := ns.map seg0 }))[i]? = some (.disk p A) := by rw [List.getElem?_set_ne (fun e => hij e.symm)]; exact hi
    have hj1 : (L.set j (.log l p { g with segs := ns.map seg0 }))[j]? = some (.log l p { g with segs := ns.map seg0 }) := List.getElem?_set_self hjl
    have hnl : ns.length ≤ 16 := by rw [← hns, numsL_length]; exact found_few hok _
    have hrg : ∀ x ∈ ns, 0 ≤ x ∧ x ≤ 9999999 := fun x hx => numsL_range (by rw [hns]; exact hx)
    have hOk1 : ({ g with segs := ns.map seg0 } : AL).Ok := ⟨hnm, fun s hs => by
      obtain ⟨x, hx, rfl⟩ := List.mem_map.1 hs
      have := hrg x hx
      exact ⟨this.1, by show x ≤ 10000000; omega⟩, by show (ns.map seg0).length ≤ 10000000; rw [List.length_map]; omega⟩
    have hrd : ∀ k, k < ({ g with segs := ns.map seg0 } : AL).segs.length → (A.read (({ g with segs := ns.map seg0 } : AL).fileAt k).data.toList 0 1048576).2 = 0 := fun k hk => by
      have hk' : k < ns.length := by simpa using hk
      have : (({ g with segs := ns.map seg0 } : AL).fileAt k).data.toList = fileL g.name.data.toList ns[k] := by
        unfold AL.fileAt
        rw [fileB_list]
        congr 1
        show ((ns.map seg0).getD k ⟨0, 0, 0⟩).num = _
        rw [List.getD_eq_getElem?_getD, List.getElem?_map, List.getElem?_eq_getElem hk']
        rfl
      rw [this]
      exact found_read hoff (by rw [hns]; exact List.getElem_mem hk')
    obtain ⟨R, hR⟩ : ∃ R, rdFin A g.name.data.toList ⟨[], 0, ns.map seg0, false⟩ ns.length 0 = R := ⟨_, rfl⟩
    have hsl : (ns.map seg0).length = ns.length := List.length_map _
    have HRD : Hid (∀ W, Lies B W (L.set j (.log l p { g with segs := ns.map seg0 })) → Below B w W → Calls Tryz.prog 34 #[.pointer (some ⟨l, 0, none⟩)] W fun e w' => ∃ v, e = .returned (.tuple #[v, .bool (rdOut ns.length R).2.1, .int .i64 (rdOut ns.length R).2.2]) ∧ Lies B w' ((L.set j (.log l p { g with segs := R.2.segs, next := R.2.next })) ++ [.row 9 v ((rdOut ns.length R).1.map encStr)]) ∧ Below B W w') := fun W hl hb => by
      have := read_any' hl hi1 hj1 hij hOk1 (he.below hb) (by show (ns.map seg0).length ≤ 16; omega) hnx hrd R (by show rdFin A g.name.data.toList ⟨[], 0, ns.map seg0, false⟩ (ns.map seg0).length 0 = R; rw [hsl]; exact hR)
      change Calls Tryz.prog 34 _ _ fun e w' => ∃ v, e = .returned (.tuple #[v, .bool (rdOut (ns.map seg0).length R).2.1, .int .i64 (rdOut (ns.map seg0).length R).2.2]) ∧ Lies B w' ((L.set j (.log l p { g with segs := ns.map seg0 })).set j (.log l p { g with segs := R.2.segs, next := R.2.next }) ++ [.row 9 v ((rdOut (ns.map seg0).length R).1.map encStr)]) ∧ Below B W w' at this
      rw [hsl, List.set_set] at this
      exact this
    obtain ⟨k', hk1, hk2, hk3, hRk⟩ := rdFin_is A g.name.data.toList ⟨[], 0, ns.map seg0, false⟩ ns.length 0
    rw [hR] at hRk
    have hrng := rdK_range A g.name.data.toList ⟨[], 0, ns.map seg0, false⟩ rfl rfl k'
    have hrl := rdK_len A g.name.data.toList ⟨[], 0, ns.map seg0, false⟩ k'
    have hrn := fun q => rdK_num A g.name.data.toList ⟨[], 0, ns.map seg0, false⟩ q k'
    have hR2 : R.2 = rdK A g.name.data.toList ⟨[], 0, ns.map seg0, false⟩ k' := by rw [hRk]
    rw [← hR2] at hrng hrl hrn
    change R.2.segs.length = (ns.map seg0).length at hrl
    rw [hsl] at hrl
    have HTN : Hid (R.2.torn = true → 0 < ns.length) := fun ht => by
      rcases Nat.eq_zero_or_pos ns.length with h0 | h0
      · rw [h0] at hk2
        have : k' = 0 := by omega
        rw [hR2, this] at ht
        cases ht
      · exact h0
    have HOK2 : Hid (∀ nx, ({ g with segs := R.2.segs, next := nx } : AL).Ok) := fun nx => ⟨hnm, fun s hs => by
      obtain ⟨q, hq⟩ := List.getElem?_of_mem hs
      have h1 := hrn q
      rw [List.getD_eq_getElem?_getD, hq] at h1
      change s.num = ((ns.map seg0).getD q ⟨0, 0, 0⟩).num at h1
      rw [h1]
      exact hOk1.num q, by show R.2.segs.length ≤ 10000000; omega⟩
    have HNS := hide hns
    have HRR := hide hR
    have HCO := hide hco
    have HRL := hide hrl
    have HNL := hide hnl
    have HRNG : Hid ((-1 ≤ R.2.next ∧ R.2.next ≤ 1152921504606846976 + 300000) ∧ R.2.pay.length ≤ 300000) := by
      have h1 := hrng
      have h2 : k' ≤ 16 := by omega
      refine ⟨⟨h1.1.1, ?_⟩, ?_⟩
      · have := h1.1.2; omega
      · have := h1.2; omega
    have HIL := hide hil
    have HJL := hide hjl
    have HI := hide hi
    have HJ := hide hj
    have HIJ := hide hij
    have HNM := hide hnm
    clear h hfi hZ he hi1 hj1 hrg hOk1 hrd hk1 hk2 hk3 hRk hrng hrl hrn hR2 hR hns hco hsl hnl hi hj hij hnm hil hjl hok
    go_enter Tryz.func21, Tryz.ntmps21
    go_wp2_with fail
    refine (HFI.out).mono ?_
    rintro e W1 ⟨rfl, hl1, hb1⟩
    have HRC := hide (HRD.out _ hl1 hb1)
    have HB1 := hide hb1
    clear hl1 hb1 HRD HFI
    go_wp2_with fail
    refine (HRC.out).mono ?_
    rintro e W2 ⟨v, rfl, hl2, hb2⟩
    have hbb2 := HB1.out.trans hb2
    by_cases hbad : R.2.torn = true ∧ R.1 < ns.length
    · have hro : rdOut ns.length R = ([], false, 60) := by unfold rdOut; rw [if_pos hbad]
      have HZZ : Hid (Z = ([], 60, A, { g with segs := R.2.segs, next := R.2.next })) := by
        show _ = _
        rw [← HZ.out]; unfold loadA; simp only
        rw [HNS.out, if_neg (by rw [HCO.out]; decide), HRR.out, if_pos hbad]
      rw [hro] at hl2 ⊢
      have HL2 := hide hl2.drop
      have HBB2 := hide hbb2
      clear hl2 hb2 hbb2 hbad hro HRC HZ HNS HRR HTN HOK2
      go_wp2
      go_ret2
      exact HNIL.out _ _ _ _ HZZ.out (by decide) (HI0.out _ _ HL2.out) HBB2.out
    · have hro : rdOut ns.length R = (R.2.pay, R.2.torn, 0) := by unfold rdOut; rw [if_neg hbad]
      rw [hro] at hl2 ⊢
      obtain ⟨PAY, hPAY⟩ : ∃ x, R.2.pay = x := ⟨_, rfl⟩
      obtain ⟨PN, hPN⟩ : ∃ x, PAY.length = x := ⟨_, rfl⟩
      obtain ⟨torn, hTO⟩ : ∃ x, R.2.torn = x := ⟨_, rfl⟩
      obtain ⟨SG, hSG⟩ : ∃ x, R.2.segs = x := ⟨_, rfl⟩
      have HZ2 : Hid (Z = (let nx := if PAY = [] then first else R.2.next
          let g3 : AL := { g with segs := SG, next := nx }
          if first < nx - PN ∨ nx < first then ([], 60, A, g3)
          else
            let T := if torn = true then A.trunc (fileL g.name.data.toList (SG.getLastD ⟨0, 0, 0⟩).num) (SG.getLastD ⟨0, 0, 0⟩).size else (0, A)
            if T.1 ≠ 0 then ([], T.1, T.2, g3)
            else if (T.2.syncs g3.files).1 ≠ 0 then ([], (T.2.syncs g3.files).1, (T.2.syncs g3.files).2, g3)
            else (PAY.drop (first - (nx - PN)).toNat, 0, (T.2.syncs g3.files).2, g3))) := by
        show _ = _
        rw [← HZ.out]; unfold loadA; simp only
        rw [HNS.out, if_neg (by rw [HCO.out]; decide), HRR.out, if_neg hbad, hPAY, hTO, hSG, hPN]
      rw [hPAY, hSG, hTO] at hl2
      simp only at hl2
      simp only [hPAY, hTO]
      have hrow := hl2.rowOf (i := (L.set j (.log l p { g with segs := SG, next := R.2.next })).length + 0) (e := 9) (v := v) (xs := PAY.map encStr) (by rw [get_tail]; rfl)
      obtain ⟨ad, cap, hv, _, _, _⟩ := row_at hrow
      rw [List.length_map, hPN] at hv
      subst hv
      have HTN2 : Hid (torn = true → 0 < SG.length) := fun ht => by rw [← hSG, HRL.out]; exact HTN.out (by rw [hTO]; exact ht)
      have HSL : Hid (SG.length = ns.length) := by show _ = _; rw [← hSG]; exact HRL.out
      have HOK3 : Hid (∀ nx, ({ g with segs := SG, next := nx } : AL).Ok) := fun nx => by rw [← hSG]; exact HOK2.out nx
      obtain ⟨X0, hX0⟩ : ∃ x, R.2.next = x := ⟨_, rfl⟩
      rw [hX0] at hl2 HZ2
      have n1 : -1 ≤ X0 := by rw [← hX0]; exact HRNG.out.1.1
      have n2 : X0 ≤ 1152921504606846976 + 300000 := by rw [← hX0]; exact HRNG.out.1.2
      have n3 : PN ≤ 300000 := by rw [← hPN, ← hPAY]; exact HRNG.out.2
      have HPN := hide hPN
      obtain ⟨TL, hTL⟩ : ∃ x : List Item, [.row 9 (.slice ad PN cap) (PAY.map encStr)] = x := ⟨_, rfl⟩
      rw [hTL] at hl2
      have HTL := hide hTL
      have HLA : Hid (∀ (gg : AL), ((L.set j (.log l p gg)) ++ TL)[j]? = some (.log l p gg) ∧ ((L.set j (.log l p gg)) ++ TL)[i]? = some (.disk p A)) := fun gg => ⟨get_head (List.getElem?_set_self HJL.out), get_head (by rw [List.getElem?_set_ne (fun e => HIJ.out e.symm)]; exact HI.out)⟩
      obtain ⟨v2, r2, hat2, _⟩ := hl2.logAt (HLA.out _).1
      have c4 := hat2.c4
      have c4f := hat2.fz 4
      by_cases hpe : PAY = []
      case' pos =>
        have hp0 : PN = 0 := by rw [← hPN, hpe]; rfl
        have d0 : ((PN : Int) == 0) = true := beq_iff_eq.2 (by omega)
        obtain ⟨hl3, hb3⟩ := hl2.setLog (HLA.out _).1 4 (.int .i64 first) (g' := { g with segs := SG, next := first }) (fun v => rfl) rfl
        rw [hset_app _ (by rw [List.length_set]; exact HJL.out), List.set_set] at hl3
        obtain ⟨W3, hW3⟩ : ∃ x, W2.setCell ⟨l, 4, none⟩ (.int .i64 first) = x := ⟨_, rfl⟩
        rw [hW3] at hl3 hb3
        have hbb3 := hbb2.trans hb3
        have HZ3 : Hid (Z = RESTA g A SG PAY PN torn first first) := by
          show _ = _
          have := HZ2.out
          rw [if_pos hpe] at this
          exact this
        obtain ⟨v3, r3, hat3, _⟩ := hl3.logAt (HLA.out _).1
        have y4 := hat3.c4
        obtain ⟨NX, hNX⟩ : ∃ x, first = x := ⟨_, rfl⟩
        have u1 : -1 ≤ NX := by omega
        have u2 : NX ≤ 1152921504606846976 + 300000 := by omega
        have HZ4 : Hid (Z = RESTA g A SG PAY PN torn first NX) := by show _ = _; rw [HZ3.out, ← hNX]
        have y4' : W3.cell? ⟨l, 4, none⟩ = some (.int .i64 NX) := by rw [← hNX]; exact y4
        have hl4 : Lies B W3 (L.set j (.log l p { g with segs := SG, next := NX }) ++ TL) := by rw [← hNX]; exact hl3
        clear HZ2 HZ3 hat2 hat3 hbad hro HRC HZ HNS HRR HTN HOK2 hrow hPAY hTO hSG hX0 hTL hPN hb2 hl2 hl3 hb3 hbb2 y4 hNX hpe hp0
        obtain ⟨G3, hG3⟩ : ∃ x, ({ g with segs := SG, next := NX } : AL) = x := ⟨_, rfl⟩
        have HGOK : Hid G3.Ok := by show AL.Ok _; rw [← hG3]; exact HOK3.out NX
        have HGS : Hid (G3.segs = SG ∧ G3.name = g.name) := by show _ ∧ _; rw [← hG3]; exact ⟨rfl, rfl⟩
        have HZ5 : Hid (Z = if first < NX - PN ∨ NX < first then ([], 60, A, G3) else (let T := if torn = true then A.trunc (fileL g.name.data.toList (SG.getLastD ⟨0, 0, 0⟩).num) (SG.getLastD ⟨0, 0, 0⟩).size else (0, A); if T.1 ≠ 0 then ([], T.1, T.2, G3) else if (T.2.syncs G3.files).1 ≠ 0 then ([], (T.2.syncs G3.files).1, (T.2.syncs G3.files).2, G3) else (PAY.drop (first - (NX - PN)).toNat, 0, (T.2.syncs G3.files).2, G3))) := by show _ = _; rw [HZ4.out, ← hG3]; rfl
        rw [hG3] at hl4
        clear HZ4 hG3
        have HLW := hide hl4
        have HBW0 := hide hbb3
        have HLD : Hid (Lies B W3 ((L.set i (.disk p A)).set j (.log l p G3))) := by show Lies _ _ _; rw [hset_keep HI.out]; exact hl4.drop
        clear hl4 hbb3
      case' neg =>
        have hp0 : PN ≠ 0 := fun h0 => hpe (List.length_eq_zero_iff.1 (hPN.trans h0))
        have d0 : ((PN : Int) == 0) = false := by simpa using (show (PN : Int) ≠ 0 by omega)
        have HZ4 : Hid (Z = RESTA g A SG PAY PN torn first X0) := by
          show _ = _
          have := HZ2.out
          rw [if_neg hpe] at this
          exact this
        clear HZ2 hat2 hbad hro HRC HZ HNS HRR HTN HOK2 hrow hPAY hTO hSG hX0 hTL hPN hb2 c4f
        obtain ⟨G3, hG3⟩ : ∃ x, ({ g with segs := SG, next := X0 } : AL) = x := ⟨_, rfl⟩
        have HGOK : Hid G3.Ok := by show AL.Ok _; rw [← hG3]; exact HOK3.out X0
        have HGS : Hid (G3.segs = SG ∧ G3.name = g.name) := by show _ ∧ _; rw [← hG3]; exact ⟨rfl, rfl⟩
        have HZ5 : Hid (Z = if first < X0 - PN ∨ X0 < first then ([], 60, A, G3) else (let T := if torn = true then A.trunc (fileL g.name.data.toList (SG.getLastD ⟨0, 0, 0⟩).num) (SG.getLastD ⟨0, 0, 0⟩).size else (0, A); if T.1 ≠ 0 then ([], T.1, T.2, G3) else if (T.2.syncs G3.files).1 ≠ 0 then ([], (T.2.syncs G3.files).1, (T.2.syncs G3.files).2, G3) else (PAY.drop (first - (X0 - PN)).toNat, 0, (T.2.syncs G3.files).2, G3))) := by show _ = _; rw [HZ4.out, ← hG3]; rfl
        rw [hG3] at hl2
        clear HZ4 hG3
        have HLW := hide hl2
        have HBW0 := hide hbb2
        have HLD : Hid (Lies B W2 ((L.set i (.disk p A)).set j (.log l p G3))) := by show Lies _ _ _; rw [hset_keep HI.out]; exact hl2.drop
        clear hl2 hbb2
        generalize X0 = NX at *
        generalize W2 = W3 at *
      all_goals
        by_cases h1 : first < NX - (PN : Int)
        · have k1 : decide (first < NX - (PN : Int)) = true := decide_eq_true h1
          have HZZ : Hid (Z = ([], 60, A, G3)) := by show _ = _; rw [HZ5.out, if_pos (.inl h1)]
          go_wp2
          go_ret2
          exact HNIL.out _ _ _ _ HZZ.out (by decide) HLD.out HBW0.out
        have k1 : decide (first < NX - (PN : Int)) = false := decide_eq_false h1
        by_cases h2 : NX < first
        · have k2 : decide (NX < first) = true := decide_eq_true h2
          have HZZ : Hid (Z = ([], 60, A, G3)) := by show _ = _; rw [HZ5.out, if_pos (.inr h2)]
          go_wp2
          go_ret2
          exact HNIL.out _ _ _ _ HZZ.out (by decide) HLD.out HBW0.out
        have k2 : decide (NX < first) = false := decide_eq_false h2
        obtain ⟨K, hK⟩ : ∃ K : Nat, (K : Int) = first - (NX - (PN : Int)) := ⟨(first - (NX - (PN : Int))).toNat, by omega⟩
        have hKP : K ≤ PN := by omega
        have HZ6 : Hid (Z = (let T := if torn = true then A.trunc (fileL g.name.data.toList (SG.getLastD ⟨0, 0, 0⟩).num) (SG.getLastD ⟨0, 0, 0⟩).size else (0, A); if T.1 ≠ 0 then ([], T.1, T.2, G3) else if (T.2.syncs G3.files).1 ≠ 0 then ([], (T.2.syncs G3.files).1, (T.2.syncs G3.files).2, G3) else (PAY.drop K, 0, (T.2.syncs G3.files).2, G3))) := by show _ = _; rw [HZ5.out, if_neg (fun hc => hc.elim h1 h2), show (first - (NX - (PN : Int))).toNat = K by omega]
        clear HZ5
        cases torn with
        | false =>
          have HZ7 : Hid (Z = if (A.syncs G3.files).1 ≠ 0 then ([], (A.syncs G3.files).1, (A.syncs G3.files).2, G3) else (PAY.drop K, 0, (A.syncs G3.files).2, G3)) := by show _ = _; rw [HZ6.out]; simp only [Bool.false_eq_true, if_false]; rw [if_neg (by simp)]
          clear HZ6
          have hlq : Lies B W3 ((L.set j (.log l p G3) ++ TL).set i (.disk p A)) := by rw [hset_keep (HLA.out G3).2]; exact HLW.out
          have hbq := HBW0.out
          have hii : ((L.set j (.log l p G3) ++ TL).set i (.disk p A))[i]? = some (.disk p A) := List.getElem?_set_self (by rw [List.length_append, List.length_set]; have := HIL.out; omega)
          have hjj : ((L.set j (.log l p G3) ++ TL).set i (.disk p A))[j]? = some (.log l p G3) := by rw [List.getElem?_set_ne HIJ.out]; exact (HLA.out G3).1
          have hsy := syncAll_any hlq hii hjj HIJ.out HGOK.out (HENV.out.below hbq)
          obtain ⟨E, A9, hY⟩ : ∃ e a, A.syncs G3.files = (e, a) := ⟨_, _, rfl⟩
          rw [hY, List.set_set] at hsy
          have HSY := hide hsy
          have HY := hide hY
          have HBW := hide hbq
          clear hsy hY hii hjj hlq hbq
          go_wp2_with fail
          refine (HSY.out).mono ?_
          rintro e W6 ⟨rfl, hl6, hb6⟩
          have hbb6 := HBW.out.trans hb6
          have hlist : (L.set j (.log l p G3) ++ TL).set i (.disk p A9) = ((L.set i (.disk p A9)).set j (.log l p G3)) ++ TL := by rw [hset_app _ (by rw [List.length_set]; exact HIL.out), List.set_comm _ _ (fun e => HIJ.out e.symm)]
          rw [hlist] at hl6
          by_cases hE : E = 0
          · subst hE
            have hZZ : Z = (PAY.drop K, 0, A9, G3) := by rw [HZ7.out, HY.out]; simp only; rw [if_neg (by simp)]
            have HZZ := hide hZZ
            rw [← HTL.out] at hl6
            obtain ⟨ad', cap', hv, hcap, hmx, hz1, hz2, hsub⟩ := hl6.toSub (q := ((L.set i (.disk p A9)).set j (.log l p G3)).length + 0) (xs := PAY) (by rw [get_tail]; rfl) K (by rw [HPN.out]; exact hKP)
            rw [HPN.out] at hv hcap
            cases hv
            rw [List.set_append_right _ _ (by omega), Nat.add_sub_cancel_left] at hsub
            have HSUB := hide hsub
            have HBB6 := hide hbb6
            have HKE : Hid (first - (NX - (PN : Int)) = (K : Int)) := by show _ = _; omega
            clear hl6 hb6 hbb6 hsub hZZ hlist hK
            go_wp2
            case inl =>
              go_ret2
              refine ⟨.slice ad (PN - (first - (NX - (PN : Int))).toNat) 0, by rw [HZZ.out]; rfl, fun hne => absurd (by rw [HZZ.out]) hne, ?_, HBB6.out⟩
              rw [HZZ.out]
              have eK : (first - (NX - (PN : Int))).toNat = K := by have := HKE.out; omega
              have hs := HSUB.out
              simp only [eK, HPN.out] at hs ⊢
              unfold dropAd at hs
              rw [eK] at h
              rw [if_pos h, show cap - K = 0 by omega] at hs
              exact hs
            case inr =>
              go_ret2
              refine ⟨.slice (Option.map (fun x => x.add (first - (NX - (PN : Int))).toNat) ad) (PN - (first - (NX - (PN : Int))).toNat) (cap - (first - (NX - (PN : Int))).toNat), by rw [HZZ.out]; rfl, fun hne => absurd (by rw [HZZ.out]) hne, ?_, HBB6.out⟩
              rw [HZZ.out]
              have eK : (first - (NX - (PN : Int))).toNat = K := by have := HKE.out; omega
              have hs := HSUB.out
              simp only [eK, HPN.out] at hs ⊢
              unfold dropAd at hs
              rw [eK] at h
              rw [if_neg h] at hs
              cases ad with
              | none => exact hs
              | some a =>
                obtain ⟨b, rfl⟩ := hz1 a rfl
                simp only [Option.map_some, addr_addK] at hs ⊢
                exact hs
          · have hZZ : Z = ([], E, A9, G3) := by rw [HZ7.out, HY.out]; simp only; rw [if_pos hE]
            have q1 : (E != 0) = true := by simpa using hE
            have HZZ := hide hZZ
            have HL6 := hide hl6.drop
            have HBB6 := hide hbb6
            have HNE := hide hE
            clear hl6 hb6 hbb6 hZZ hlist hE
            go_wp2
            go_ret2
            exact HNIL.out _ _ _ _ HZZ.out HNE.out HL6.out HBB6.out
        | true =>
          have hSG0 := HTN2.out rfl
          obtain ⟨m, hm⟩ : ∃ m, SG.length = m + 1 := ⟨SG.length - 1, by omega⟩
          obtain ⟨s, hsE⟩ : ∃ s, SG.getLastD ⟨0, 0, 0⟩ = s := ⟨_, rfl⟩
          have hsm : SG[m]? = some s := by rw [← hsE, List.getLastD_eq_getLast?, List.getLast?_eq_getElem?, hm, Nat.add_sub_cancel, List.getElem?_eq_getElem (by omega)]; rfl
          obtain ⟨E5, A5, hT5⟩ : ∃ e a, A.trunc (fileL g.name.data.toList s.num) s.size = (e, a) := ⟨_, _, rfl⟩
          have HZ7 : Hid (Z = if E5 ≠ 0 then ([], E5, A5, G3) else if (A5.syncs G3.files).1 ≠ 0 then ([], (A5.syncs G3.files).1, (A5.syncs G3.files).2, G3) else (PAY.drop K, 0, (A5.syncs G3.files).2, G3)) := by show _ = _; rw [HZ6.out]; simp only [if_true]; rw [hsE, hT5]
          have HT5 := hide hT5
          obtain ⟨v3, hp⟩ := HLW.out.pin (HLA.out G3).1
          rw [hset_app _ (by rw [List.length_set]; exact HJL.out), List.set_set] at hp
          obtain ⟨P, hP⟩ : ∃ x, L.set j (.logv l p G3 v3) ++ TL = x := ⟨_, rfl⟩
          rw [hP] at hp
          have hPj : P[j]? = some (.logv l p G3 v3) := by rw [← hP]; exact get_head (List.getElem?_set_self HJL.out)
          have hPi : P[i]? = some (.disk p A) := by rw [← hP]; exact get_head (by rw [List.getElem?_set_ne (fun e => HIJ.out e.symm)]; exact HI.out)
          obtain ⟨r3, hat3, _⟩ := hp.logv hPj
          obtain ⟨ad3, cap3, b, off, hv3, had3⟩ := form_of hat3
          subst hv3
          obtain rfl := had3 (by rw [HGS.out.1]; omega)
          have hgl : G3.segs.length = m + 1 := by rw [HGS.out.1]; exact hm
          have hgs : G3.segs[m]? = some s := by rw [HGS.out.1]; exact hsm
          have HCEL : Hid (∀ (W' : World) (M : List Item), Lies B W' M → M[j]? = some (.logv l p G3 (.slice (some ⟨b, off, none⟩) G3.segs.length cap3)) → (W'.cell? ⟨l, 3, none⟩ = some (.slice (some ⟨b, off, none⟩) (m + 1) cap3) ∧ W'.cell? ⟨b, off + m * 3, none⟩ = some (.int .i64 s.num) ∧ W'.cell? ⟨b, off + m * 3 + 1, none⟩ = some (.int .i64 s.size) ∧ W'.cell? ⟨b, off + m * 3 + 2, none⟩ = some (.int .i64 s.fin)) ∧ W'.cell? ⟨l, 0, none⟩ = some (.pointer (some ⟨p, 0, none⟩)) ∧ W'.cell? ⟨l, 1, none⟩ = some (.string g.name) ∧ l < W'.heap.size) := fun W' M hM hMj => by
            obtain ⟨r4, hat4, _⟩ := hM.logv hMj
            obtain ⟨_, _, hc, _⟩ := seg3 hat4 m hgs
            refine ⟨⟨?_, hc⟩, hat4.c0, ?_, lt_of_some hat4.cells⟩
            · rw [← hgl]; exact hat4.c3
            · rw [← HGS.out.2]; exact hat4.c1
          obtain ⟨V0, hV0⟩ : ∃ x, W3.drew = x := ⟨_, rfl⟩
          have hv0 := hp.same (w' := W3.drew) (Nat.le_refl _) (fun _ _ _ => rfl)
          rw [hV0] at hv0
          have hvb0 : Below B w V0 := by rw [← hV0]; exact HBW0.out.drew
          obtain ⟨g2, hg2⟩ : ∃ x, V0.heap.size = x := ⟨_, rfl⟩
          obtain ⟨V1, hV1⟩ : ∃ x, V0.alloc (.cells #[.int .i64 0, .int .i64 0, .int .i64 0] 66) = x := ⟨_, rfl⟩
          obtain ⟨V2, hV2⟩ : ∃ x, ((V1.setCell ⟨g2, 0, none⟩ (.int .i64 s.num)).setCell ⟨g2, 1, none⟩ (.int .i64 s.size)).setCell ⟨g2, 2, none⟩ (.int .i64 s.fin) = x := ⟨_, rfl⟩
          obtain ⟨hv1, hvb1⟩ := hv0.newCells #[.int .i64 0, .int .i64 0, .int .i64 0] 66
          rw [hV1, hg2] at hv1
          rw [hV1] at hvb1
          obtain ⟨⟨e0, e1, e2⟩, ef⟩ := hv1.get3 (q := P.length + 0) (by rw [get_tail]; rfl)
          have ef0 := ef 0
          have ef1 := ef 1
          have ef2 := ef 2
          obtain ⟨hv2, hvb2⟩ := hv1.set3 (q := P.length + 0) (by rw [get_tail]; rfl) _ _ _ hV2
          rw [List.set_append_right _ _ (by omega), Nat.add_sub_cancel_left] at hv2
          change Lies B V2 (P ++ [.block g2 (.cells #[.int .i64 s.num, .int .i64 s.size, .int .i64 s.fin] 66 (0, 0))]) at hv2
          have hs0 := (HCEL.out V0 _ hv0 hPj).1
          have hs1 := (HCEL.out V1 _ hv1 (get_head hPj)).1
          have hs2 := (HCEL.out V2 _ hv2 (get_head hPj)).1
          have HS0 := hide hs0
          have HS1 := hide hs1
          have HS2 := hide hs2
          obtain ⟨X, hX⟩ : ∃ X : List Item, [.block g2 (.cells #[.int .i64 s.num, .int .i64 s.size, .int .i64 s.fin] 66 (0, 0))] = X := ⟨_, rfl⟩
          rw [hX] at hv2
          have hX0 : (P ++ X)[P.length + 0]? = some (.block g2 (.cells #[.int .i64 s.num, .int .i64 s.size, .int .i64 s.fin] 66 (0, 0))) := by rw [get_tail, ← hX]; rfl
          have hvbb2 := (hvb0.trans hvb1).trans hvb2
          obtain ⟨V3, hV3⟩ : ∃ x, V2.drew = x := ⟨_, rfl⟩
          have hv3 := hv2.same (w' := V2.drew) (Nat.le_refl _) (fun _ _ _ => rfl)
          rw [hV3] at hv3
          have hvb3 : Below B w V3 := by rw [← hV3]; exact hvbb2.drew
          have hPil := (List.getElem?_eq_some_iff.1 hPi).1
          have HSS : Hid (∀ (W' : World) (it : Item), Lies B W' ((P ++ X).set i it) → (W'.cell? ⟨l, 0, none⟩ = some (.pointer (some ⟨p, 0, none⟩)) ∧ W'.cell? ⟨g2, 0, none⟩ = some (.int .i64 s.num) ∧ W'.cell? ⟨g2, 1, none⟩ = some (.int .i64 s.size) ∧ W'.cell? ⟨g2, 2, none⟩ = some (.int .i64 s.fin))) := fun W' it hl => by
            have h1 := (HCEL.out W' _ hl (by rw [List.getElem?_set_ne HIJ.out]; exact get_head hPj)).2.1
            exact ⟨h1, (hl.get3 (q := P.length + 0) (by rw [List.getElem?_set_ne (by omega)]; exact hX0)).1⟩
          have hs3 := HSS.out V3 (.disk p A) (by rw [hset_keep (get_head hPi)]; exact hv3)
          have c30 := hs3.1
          obtain ⟨c31, c32, c33⟩ := hs3.2
          have hc3 := HCEL.out V3 _ hv3 (get_head hPj)
          have hnr := HGOK.out.nums s (List.mem_of_getElem? hgs)
          have hFz : (fileB g.name s.num).size ≤ maxLen := by have := fileB_size (b := g.name) HNM.out hnr.1 hnr.2; unfold maxLen; omega
          have hfile := file_any (B := B) l s.num s.size s.fin g.name V3 hc3.2.2.1 hc3.2.2.2 HNM.out hnr.1 hnr.2 (HENV.out.below hvb3) hv3.base
          have HFILE := hide hfile
          have HFZ := hide hFz
          have HV0 := hide hV0
          have HV1 := hide hV1
          have HV2 := hide hV2
          have HV3 := hide hV3
          have HL3 := hide hv3
          have HVB3 := hide hvb3
          have HPI : Hid ((P ++ X)[i]? = some (.disk p A)) := get_head hPi
          have hvs : l < V3.heap.size ∧ g2 < V3.heap.size := ⟨hc3.2.2.2, lt_of_some (hv3.atBlock hX0)⟩
          have HVS := hide hvs
          have HUN : Hid (∀ (W' : World) (A' : AD), Lies B W' ((P ++ X).set i (.disk p A')) → Lies B W' ((L.set j (.log l p G3) ++ TL).set i (.disk p A'))) := fun W' A' hl => by
            rw [hset_app _ hPil] at hl
            have h1 := hl.drop.unpin (j := j) (by rw [List.getElem?_set_ne HIJ.out]; exact hPj)
            rw [List.set_comm _ _ HIJ.out, ← hP, hset_app _ (by rw [List.length_set]; exact HJL.out), List.set_set] at h1
            exact h1
          have q2 : IntKind.i64.wrap (m : Int) = (m : Int) := by have := HRL.out; have := HNL.out; have h5 := HSL.out; rw [IntKind.wrap_i64]; omega
          have HTM : Hid (SG.length = ns.length) := HSL.out
          have hm16 : m < 17 := by have h3 := HRL.out; have h4 := HNL.out; have h5 := HTM.out; omega
          clear hp hat3 hv0 hv1 hv2 hv3 hvb0 hvb1 hvb2 hvbb2 hvb3 hV0 hV3 hV1 hV2 ef hs0 hs1 hs2 hs3 hc3 hfile hFz hvs hPi hPj hP hX hX0 hT5 hsE hnr hgs hgl hPil hsm hSG0 hm had3
          go_wp2
          refine wp_region_noPanic ?_
          refine wp_region_held_drew (S := fun wx => wx.cell? ⟨l, 3, none⟩ = some (.slice (some ⟨b, off, none⟩) (m + 1) cap3) ∧ wx.cell? ⟨b, off + m * 3, none⟩ = some (.int .i64 s.num) ∧ wx.cell? ⟨b, off + m * 3 + 1, none⟩ = some (.int .i64 s.size) ∧ wx.cell? ⟨b, off + m * 3 + 2, none⟩ = some (.int .i64 s.fin)) (by kernel_rfl) (by rw [HV0.out]; exact HS0.out) (fun hHeld => ?_)
          rw [HV0.out] at hHeld ⊢
          refine tK 0 (some 53) (.pointer (some ⟨l, 0, none⟩)) rfl hHeld ?_
          simp only [Act.put, pA, pB, pC]
          refine tK 1 (some 54) (.pointer (some ⟨l, 0, none⟩)) rfl hHeld ?_
          simp only [Act.put, pA, pB, pC]
          refine tK 2 (some 55) (.pointer (some ⟨l, 3, none⟩)) rfl hHeld ?_
          simp only [Act.put, pA, pB, pC]
          refine tH 3 (some 56) (.slice (some ⟨b, off, none⟩) (m + 1) cap3) rfl (fun w hw => by obtain ⟨hw1, hw2, hw3, hw4⟩ := hw; first | rfl | (go_simp; done) | (go_simp; rfl)) hHeld ?_
          simp only [Act.put, pA, pB, pC]
          refine tK 4 (some 57) (.pointer (some ⟨l, 0, none⟩)) rfl hHeld ?_
          simp only [Act.put, pA, pB, pC]
          refine tK 5 (some 58) (.pointer (some ⟨l, 0, none⟩)) rfl hHeld ?_
          simp only [Act.put, pA, pB, pC]
          refine tK 6 (some 59) (.pointer (some ⟨l, 3, none⟩)) rfl hHeld ?_
          simp only [Act.put, pA, pB, pC]
          refine tH 7 (some 60) (.slice (some ⟨b, off, none⟩) (m + 1) cap3) rfl (fun w hw => by obtain ⟨hw1, hw2, hw3, hw4⟩ := hw; first | rfl | (go_simp; done) | (go_simp; rfl)) hHeld ?_
          simp only [Act.put, pA, pB, pC]
          refine tK 8 (some 61) (.int .i64 ((m + 1 : Nat) : Int)) rfl hHeld ?_
          simp only [Act.put, pA, pB, pC]
          refine tH 9 (some 62) (.int .i64 (m : Int)) rfl (fun w hw => by first | rfl | (go_simp; done) | (go_simp; rfl) | (go_simp; exact q2)) hHeld ?_
          simp only [Act.put, pA, pB, pC]
          refine tH 10 (some 63) (.pointer (some ⟨b, off + m * 3, none⟩)) rfl (fun w hw => by first | rfl | (go_simp; done) | (go_simp; rfl) | (go_simp; intro hbad; exfalso; omega)) hHeld ?_
          simp only [Act.put, pA, pB, pC]
          refine tH 11 (some 64) (.agg #[.int .i64 s.num, .int .i64 s.size, .int .i64 s.fin]) rfl (fun w hw => by obtain ⟨hw1, hw2, hw3, hw4⟩ := hw; first | rfl | (go_simp; done) | (go_simp; rfl)) hHeld ?_
          simp only [Act.put, pA, pB, pC]
          refine rdH 12 rfl (fun K hK => ?_)
          go_simp
          try rw [HV1.out]
          refine hK.out _ _ HS1.out (fun hH => ?_)
          clear hK K hHeld
          have hHeld := hH
          clear hH
          refine rdH 13 rfl (fun K hK => ?_)
          go_simp
          try rw [HV2.out]
          refine hK.out _ _ HS2.out (fun hH => ?_)
          clear hK K hHeld
          have hHeld := hH
          clear hH
          refine ⟨by kernel_rfl, ?_⟩
          refine NoPanic.normal ?_
          clear hHeld
          go_wp2
          refine wp_region_noPanic ?_
          refine wp_region_held_drew (S := fun wx => wx.cell? ⟨l, 0, none⟩ = some (.pointer (some ⟨p, 0, none⟩)) ∧ wx.cell? ⟨g2, 0, none⟩ = some (.int .i64 s.num) ∧ wx.cell? ⟨g2, 1, none⟩ = some (.int .i64 s.size) ∧ wx.cell? ⟨g2, 2, none⟩ = some (.int .i64 s.fin)) (by kernel_rfl) (by rw [HV3.out]; exact ⟨c30, c31, c32, c33⟩) (fun hHeld => ?_)
          rw [HV3.out] at hHeld ⊢
          refine tK 0 (some 65) (.pointer (some ⟨l, 0, none⟩)) rfl hHeld ?_
          simp only [Act.put, pA, pB, pC]
          refine tK 1 (some 66) (.pointer (some ⟨l, 0, none⟩)) rfl hHeld ?_
          simp only [Act.put, pA, pB, pC]
          refine tK 2 (some 67) (.pointer (some ⟨l, 0, none⟩)) rfl hHeld ?_
          simp only [Act.put, pA, pB, pC]
          refine tH 3 (some 68) (.pointer (some ⟨p, 0, none⟩)) rfl (fun w hw => by obtain ⟨hw1, hw2, hw3, hw4⟩ := hw; first | rfl | (go_simp; done) | (go_simp; rfl)) hHeld ?_
          simp only [Act.put, pA, pB, pC]
          refine tK 4 (some 69) (.pointer (some ⟨l, 0, none⟩)) rfl hHeld ?_
          simp only [Act.put, pA, pB, pC]
          refine tH 5 (some 70) (.agg #[.int .i64 s.num, .int .i64 s.size, .int .i64 s.fin]) rfl (fun w hw => by obtain ⟨hw1, hw2, hw3, hw4⟩ := hw; first | rfl | (go_simp; done) | (go_simp; rfl)) hHeld ?_
          simp only [Act.put, pA, pB, pC]
          refine tK 7 (some 72) (.pointer (some ⟨g2, 1, none⟩)) rfl hHeld ?_
          simp only [Act.put, pA, pB, pC]
          refine tH 8 (some 73) (.int .i64 s.size) rfl (fun w hw => by obtain ⟨hw1, hw2, hw3, hw4⟩ := hw; first | rfl | (go_simp; done) | (go_simp; rfl)) hHeld ?_
          simp only [Act.put, pA, pB, pC]
          refine rdH 6 rfl (fun K hK => ?_)
          go_simp
          refine (HFILE.out).mono ?_
          rintro e W4 ⟨rfl, hb4⟩
          try go_wp2_with fail
          refine hK.out _ _ (⟨(World.cell?_of_block (hb4.block l HVS.out.1)).trans c30, (World.cell?_of_block (hb4.block g2 HVS.out.2)).trans c31, (World.cell?_of_block (hb4.block g2 HVS.out.2)).trans c32, (World.cell?_of_block (hb4.block g2 HVS.out.2)).trans c33⟩) (fun hH => ?_)
          clear hK K hHeld
          have hHeld := hH
          clear hH
          refine rdH 9 rfl (fun K hK => ?_)
          go_simp
          refine (s_trunc (HL3.out.below hb4) HPI.out (fileB g.name s.num) HFZ.out s.size).mono ?_
          rintro e W5 ⟨rfl, hl5, hb5⟩
          try go_wp2_with fail
          refine hK.out _ _ (HSS.out W5 _ hl5) (fun hH => ?_)
          clear hK K hHeld
          have hHeld := hH
          clear hH
          refine tK 10 (some 12) (.int .i64 (A.trunc (fileB g.name s.num).data.toList s.size).1) rfl hHeld ?_
          simp only [Act.put, pA, pB, pC]
          refine ⟨by kernel_rfl, ?_⟩
          refine NoPanic.normal ?_
          rw [fileB_list, HT5.out] at hl5 ⊢
          have hbq := HVB3.out.trans ((hb4.mono HL3.out.base).trans hb5)
          have hlq := HUN.out _ _ hl5
          clear hHeld hl5 hb4 hb5
          by_cases hE5 : E5 = 0
          · subst hE5
            have HZ8 : Hid (Z = if (A5.syncs G3.files).1 ≠ 0 then ([], (A5.syncs G3.files).1, (A5.syncs G3.files).2, G3) else (PAY.drop K, 0, (A5.syncs G3.files).2, G3)) := by show _ = _; rw [HZ7.out, if_neg (by simp)]
            have hii : ((L.set j (.log l p G3) ++ TL).set i (.disk p A5))[i]? = some (.disk p A5) := List.getElem?_set_self (by rw [List.length_append, List.length_set]; have := HIL.out; omega)
            have hjj : ((L.set j (.log l p G3) ++ TL).set i (.disk p A5))[j]? = some (.log l p G3) := by rw [List.getElem?_set_ne HIJ.out]; exact (HLA.out G3).1
            have hsy := syncAll_any hlq hii hjj HIJ.out HGOK.out (HENV.out.below hbq)
            obtain ⟨E, A9, hY⟩ : ∃ e a, A5.syncs G3.files = (e, a) := ⟨_, _, rfl⟩
            rw [hY, List.set_set] at hsy
            have HSY := hide hsy
            have HY := hide hY
            have HBW := hide hbq
            clear hsy hY hii hjj hlq hbq
            go_wp2_with fail
            refine (HSY.out).mono ?_
            rintro e W6 ⟨rfl, hl6, hb6⟩
            have hbb6 := HBW.out.trans hb6
            have hlist : (L.set j (.log l p G3) ++ TL).set i (.disk p A9) = ((L.set i (.disk p A9)).set j (.log l p G3)) ++ TL := by rw [hset_app _ (by rw [List.length_set]; exact HIL.out), List.set_comm _ _ (fun e => HIJ.out e.symm)]
            rw [hlist] at hl6
            by_cases hE : E = 0
            · subst hE
              have hZZ : Z = (PAY.drop K, 0, A9, G3) := by rw [HZ8.out, HY.out]; simp only; rw [if_neg (by simp)]
              have HZZ := hide hZZ
              rw [← HTL.out] at hl6
              obtain ⟨ad', cap', hv, hcap, hmx, hz1, hz2, hsub⟩ := hl6.toSub (q := ((L.set i (.disk p A9)).set j (.log l p G3)).length + 0) (xs := PAY) (by rw [get_tail]; rfl) K (by rw [HPN.out]; exact hKP)
              rw [HPN.out] at hv hcap
              cases hv
              rw [List.set_append_right _ _ (by omega), Nat.add_sub_cancel_left] at hsub
              have HSUB := hide hsub
              have HBB6 := hide hbb6
              have HKE : Hid (first - (NX - (PN : Int)) = (K : Int)) := by show _ = _; omega
              clear hl6 hb6 hbb6 hsub hZZ hlist hK
              go_wp2
              case inl =>
                go_ret2
                refine ⟨.slice ad (PN - (first - (NX - (PN : Int))).toNat) 0, by rw [HZZ.out]; rfl, fun hne => absurd (by rw [HZZ.out]) hne, ?_, HBB6.out⟩
                rw [HZZ.out]
                have eK : (first - (NX - (PN : Int))).toNat = K := by have := HKE.out; omega
                have hs := HSUB.out
                simp only [eK, HPN.out] at hs ⊢
                unfold dropAd at hs
                rw [eK] at h
                rw [if_pos h, show cap - K = 0 by omega] at hs
                exact hs
              case inr =>
                go_ret2
                refine ⟨.slice (Option.map (fun x => x.add (first - (NX - (PN : Int))).toNat) ad) (PN - (first - (NX - (PN : Int))).toNat) (cap - (first - (NX - (PN : Int))).toNat), by rw [HZZ.out]; rfl, fun hne => absurd (by rw [HZZ.out]) hne, ?_, HBB6.out⟩
                rw [HZZ.out]
                have eK : (first - (NX - (PN : Int))).toNat = K := by have := HKE.out; omega
                have hs := HSUB.out
                simp only [eK, HPN.out] at hs ⊢
                unfold dropAd at hs
                rw [eK] at h
                rw [if_neg h] at hs
                cases ad with
                | none => exact hs
                | some a =>
                  obtain ⟨b, rfl⟩ := hz1 a rfl
                  simp only [Option.map_some, addr_addK] at hs ⊢
                  exact hs
            · have hZZ : Z = ([], E, A9, G3) := by rw [HZ8.out, HY.out]; simp only; rw [if_pos hE]
              have q1 : (E != 0) = true := by simpa using hE
              have HZZ := hide hZZ
              have HL6 := hide hl6.drop
              have HBB6 := hide hbb6
              have HNE := hide hE
              clear hl6 hb6 hbb6 hZZ hlist hE
              go_wp2
              go_ret2
              exact HNIL.out _ _ _ _ HZZ.out HNE.out HL6.out HBB6.out
          · have HZZ : Hid (Z = ([], E5, A5, G3)) := by show _ = _; rw [HZ7.out, if_pos hE5]
            have q1 : (E5 != 0) = true := by simpa using hE5
            have hlist : (L.set j (.log l p G3) ++ TL).set i (.disk p A5) = ((L.set i (.disk p A5)).set j (.log l p G3)) ++ TL := by rw [hset_app _ (by rw [List.length_set]; exact HIL.out), List.set_comm _ _ (fun e => HIJ.out e.symm)]
            rw [hlist] at hlq
            have HLQ := hide hlq.drop
            have HBQ := hide hbq
            have HNE := hide hE5
            clear hlq hbq hE5 hlist
            go_wp2
            go_ret2
            exact HNIL.out _ _ _ _ HZZ.out HNE.out HLQ.out HBQ.out
end
end Go.Proofs.YtdffmmiegpndkaaGreatDoor
