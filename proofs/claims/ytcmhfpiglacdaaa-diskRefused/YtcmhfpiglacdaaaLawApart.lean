/-
  DiskApart: the walk.
-/
import Derived.Test.YtcmhfpiglacdaaaRowsOwn
namespace Go.Proofs.Ytcmhfpiglacdaaa
open Go.RowKit Go.Maps Go.WideMaps
set_option linter.unusedVariables false
set_option linter.unusedSimpArgs false
theorem AD.list_few {A : AD} (h : A.Ok) : A.list.length ≤ 16 := by
  unfold AD.list
  split
  · simp
  · unfold fkeys; rw [List.length_map]; exact h.few
theorem AD.list_name {A : AD} (h : A.Ok) {k : Key} (hk : k ∈ A.list) : k.length ≤ 32 := by
  unfold AD.list at hk
  split at hk
  · simp at hk
  · obtain ⟨p, hp, rfl⟩ := List.mem_map.1 hk
    have := h.names p hp
    simp only [nameOk, Bool.and_eq_true, decide_eq_true_eq] at this
    exact this.1.2
theorem AD.dirty_few {A : AD} (h : A.Ok) (k : Key) : (A.dirtyI k).length ≤ 16384 := by
  unfold AD.dirtyI AD.dirty
  rw [List.length_map]
  split
  · simp
  · cases hq : fget A.fs k with
    | none => simp
    | some F =>
      simp only [AF.dirtyL]
      have h1 := (h.files _ (fget_mem hq)).most
      refine Nat.le_trans (List.length_filter_le _ _) ?_
      rw [List.length_range]
      unfold AF.nsec
      simp only at h1
      omega
theorem one_str (ks : List Key) : ∀ u ∈ ks.map encStr, u.oneCell' = true := by
  intro u hu
  obtain ⟨k, _, rfl⟩ := List.mem_map.1 hu
  rfl
theorem one_int (ks : List Int) : ∀ u ∈ ks.map (Value.int .i64), u.oneCell' = true := by
  intro u hu
  obtain ⟨k, _, rfl⟩ := List.mem_map.1 hu
  rfl
theorem wpList_append_run {P : Program} {ops : Array Oper} {rest : List Oper} {o : Oper} {a : Act} {w w' : World} {Q : Exit → Act → World → Prop} {v : Value} (hg : o.guard = none) (s x : Operand) (tys : Array TypeId) (ho : o.op = .call { callee := .builtin .append, args := #[s, x], argTypes := tys }) (h : (Builtin.append_ tys o.type #[a.eval s, a.eval x]).run P w = .ok v w') (k : wpList P ops Q rest (a.put o.dst v) w') : wpList P ops Q (o :: rest) a w :=
  wpList_plain hg fun K hK => wpRun (run_append_op s x tys ho h) (hK _ _ k)
def wrt : Value := .string ⟨#[119, 114, 105, 116, 116, 101, 110]⟩
set_option maxRecDepth 5000 in
set_option maxHeartbeats 1000000 in
theorem apart_walk (w : World) (ad : Option Addr) (cap : Nat) (os : List OP) (h : Script w.heap.size w ad os) :
    Calls Try.prog 3 #[.slice ad os.length cap] w fun e w' => e = .returned (.bool true) ∧ Below w.heap.size w w' := by
  have hc := made_any w ad cap os h
  obtain ⟨B, hB⟩ : ∃ B, w.heap.size = B := ⟨_, rfl⟩
  obtain ⟨D, hD⟩ : ∃ D, madeD os = D := ⟨_, rfl⟩
  rw [hB, hD] at hc
  rw [hB]
  have HBE := hide hB
  clear h hB hD
  go_enter Try.func3, Try.ntmps3
  go_wp2_with fail
  refine hc.mono ?_
  rintro e w1 ⟨p, rfl, h, hb⟩
  have HOK := hide (h.ok (i := 0) rfl)
  have HH := hide h
  have HB1 := hide hb
  clear h hb hc
  go_wp2_with fail
  refine (first_any w1).mono ?_
  rintro e w2 ⟨rfl, hb⟩
  have h2 := HH.out.below hb
  have HB2 := hide (HB1.out.trans (hb.mono HH.out.base))
  have hc := s_list (i := 0) h2 rfl
  clear h2 hb HH HB1
  go_wp2_with fail
  refine hc.mono ?_
  rintro e w3 ⟨v1, rfl, hr, h, hb⟩
  have HB3 := hide (HB2.out.trans hb)
  replace hc := s_list (i := 0) h rfl
  clear h hb HB2 hr
  go_wp2_with fail
  refine hc.mono ?_
  rintro e w4 ⟨v2, rfl, hr, h, hb⟩
  have HB4 := hide (HB3.out.trans hb)
  clear hc hr hb HB3
  obtain ⟨ks, hks⟩ : ∃ ks, D.list = ks := ⟨_, rfl⟩
  have hfew : ks.length ≤ 16 := by rw [← hks]; exact AD.list_few HOK.out
  have HNM : Hid (∀ k ∈ ks, k.length ≤ 32) := fun k hk => AD.list_name HOK.out (by rw [hks]; exact hk)
  have hl4 : Lies B w4 ([.disk p D, .row 9 v1 (ks.map encStr), .row 9 v2 (ks.map encStr)] ++ [.row 9 (.slice none 0 0) []]) := by rw [← hks]; exact h.pushNil 9
  clear h
  have hr1 := hl4.rowOf (i := 1) rfl
  have hr2 := hl4.rowOf (i := 2) rfl
  have hlm : (ks.map encStr).length = ks.length := List.length_map ..
  obtain ⟨v3, w5, hap5, hr5, hm5⟩ := run_append_rows (t := 26) (e := 9) Try.underlying26 info9' rfl (by decide) w4 26 26 (.slice none 0 0) [] (ks.map encStr) (World.ownsRow_nil _ _ _ _) v1 (src_row Try.underlying26 hr1 (one_str ks)) (by simp; omega)
  obtain ⟨h5, hb5⟩ := hl4.moved (i := 3) rfl hr5 hm5
  have HB5 := hide (HB4.out.trans hb5)
  have h5' : Lies B w5 [.disk p D, .row 9 v1 (ks.map encStr), .row 9 v2 (ks.map encStr), .row 9 v3 (ks.map encStr)] := h5
  have hr3 := h5'.rowOf (i := 3) rfl
  obtain ⟨ad1, cap1, e1, _, _, _⟩ := row_at hr1
  obtain ⟨ad2, cap2, e2, _, _, _⟩ := row_at hr2
  obtain ⟨ad3, cap3, e3, _, _, _⟩ := row_at hr3
  rw [hlm] at e1 e2 e3
  subst e1 e2 e3
  have H5 := hide h5'
  clear hr1 hr2 hr3 hr5 hm5 h5 h5' hb5 HB4 hl4
  go_wp2_with (first | (at_builtin; refine wpList_append_run rfl _ _ _ rfl hap5 ?_; go_frame) | go_in)
  clear hap5
  go_loopw [7] (fun i wr => ∃ k : Nat, k ≤ ks.length ∧ i = .int .i64 (k : Int) ∧ Lies B wr [.disk p D, .row 9 (.slice ad1 ks.length cap1) (fillTo (ks.map encStr) k wrt), .row 9 (.slice ad2 ks.length cap2) (ks.map encStr), .row 9 (.slice ad3 ks.length cap3) (ks.map encStr)] ∧ Below B w wr) (fun i _ => ks.length - (intOf i).toNat)
  case atStart => exact ⟨0, by omega, rfl, H5.out, HB5.out⟩
  case round =>
    clear H5 HB5
    obtain ⟨k, hk, rfl, hlr, hbr⟩ := hrel
    by_cases hlt : k < ks.length
    · have dk : decide ((k : Int) < (ks.length : Int)) = true := decide_eq_true (by omega)
      have hk0 : (0 : Int) ≤ (k : Int) := by omega
      have hk1 : (k : Int) < (ks.length : Int) := by omega
      obtain ⟨s, hs⟩ : ∃ s : ByteArray, s = ⟨ks[k].toArray⟩ := ⟨_, rfl⟩
      have hsz : s.size ≤ maxLen := by
        rw [hs]
        show ks[k].toArray.size ≤ maxLen
        have := HNM.out ks[k] (List.getElem_mem hlt)
        rw [List.size_toArray]
        unfold maxLen
        omega
      have rowk : ∀ {wx : World} {L : List Item}, Lies B wx L → L[3]? = some (.row 9 (.slice ad3 ks.length cap3) (ks.map encStr)) → ∀ g, ad3 = some ⟨g, 0, none⟩ → wx.cell? ⟨g, k, none⟩ = some (.string s) := fun hx hi g hg => by
        have := hx.rowOf hi
        rw [hlm, hg] at this
        rw [World.ownsRow.cellAt this k (by omega), List.getElem?_map, List.getElem?_eq_getElem hlt, hs]
        rfl
      have hr3 := hlr.rowOf (i := 3) rfl
      rw [hlm] at hr3
      obtain ⟨g3, rfl⟩ := own_form hr3 (by omega)
      have f3 := rowk hlr rfl g3 rfl
      have ROW : Hid (∀ (wx : World) (L : List Item), Lies B wx L → L[3]? = some (.row 9 (.slice (some ⟨g3, 0, none⟩) ks.length cap3) (ks.map encStr)) → wx.cell? ⟨g3, k, none⟩ = some (.string s)) := fun wx L hx hi => rowk hx hi g3 rfl
      have hc := s_dirty (i := 0) hlr rfl s hsz
      have HBR := hide hbr
      have HSZ := hide hsz
      obtain ⟨ds, hds⟩ : ∃ ds, D.dirtyI s.data.toList = ds := ⟨_, rfl⟩
      have hdf : ds.length ≤ 16384 := by rw [← hds]; exact AD.dirty_few HOK.out _
      have HDS := hide hds
      rw [hds] at hc
      clear hlr hbr rowk hr3 hs hds hsz
      go_wp2_with fail
      refine hc.mono ?_
      rintro e w6 ⟨va, rfl, _, h6, hb6⟩
      have HB6 := hide (HBR.out.trans hb6)
      replace f3 := ROW.out _ _ h6 rfl
      replace hc := s_dirty (i := 0) h6 rfl s HSZ.out
      rw [HDS.out] at hc
      clear h6 hb6 HBR
      go_wp2_with fail
      refine hc.mono ?_
      rintro e w7 ⟨vb, rfl, _, h7, hb7⟩
      have HB7 := hide (HB6.out.trans hb7)
      have hld : (ds.map (Value.int .i64)).length = ds.length := List.length_map ..
      have h7n := h7.pushNil 3
      have ha := h7n.rowOf (i := 4) rfl
      have hbb := h7n.rowOf (i := 5) rfl
      obtain ⟨vw, w8, hap8, hr8, hm8⟩ := run_append_rows (t := 28) (e := 3) Try.underlying28 info3' rfl (by decide) w7 28 28 (.slice none 0 0) [] (ds.map (Value.int .i64)) (World.ownsRow_nil _ _ _ _) va (src_row Try.underlying28 ha (one_int ds)) (by simp; omega)
      obtain ⟨h8, hb8⟩ := h7n.moved (i := 6) rfl hr8 hm8
      have HB8 := hide (HB7.out.trans hb8)
      have h8' : Lies B w8 [.disk p D, .row 9 (.slice ad1 ks.length cap1) (fillTo (ks.map encStr) k wrt), .row 9 (.slice ad2 ks.length cap2) (ks.map encStr), .row 9 (.slice (some ⟨g3, 0, none⟩) ks.length cap3) (ks.map encStr), .row 3 va (ds.map (Value.int .i64)), .row 3 vb (ds.map (Value.int .i64)), .row 3 vw (ds.map (Value.int .i64))] := h8
      have hw8 := h8'.rowOf (i := 6) rfl
      obtain ⟨ada, capa, e1, _, _, _⟩ := row_at ha
      obtain ⟨adb, capb, e2, _, _, _⟩ := row_at hbb
      obtain ⟨adw, capw, e3, _, _, _⟩ := row_at hw8
      rw [hld] at e1 e2 e3
      subst e1 e2 e3
      have H8 := hide h8'
      clear h8 h8' hw8 ha hbb h7 h7n hb7 hb8 hr8 hm8 HB6 HB7 hc f3
      go_wp2_with (first | (at_builtin; refine wpList_append_run rfl _ _ _ rfl hap8 ?_; go_frame) | go_in)
      clear hap8
      go_loopw [11] (fun i wx => ∃ j : Nat, j ≤ ds.length ∧ i = .int .i64 (j : Int) ∧ Lies B wx [.disk p D, .row 9 (.slice ad1 ks.length cap1) (fillTo (ks.map encStr) k wrt), .row 9 (.slice ad2 ks.length cap2) (ks.map encStr), .row 9 (.slice (some ⟨g3, 0, none⟩) ks.length cap3) (ks.map encStr), .row 3 (.slice ada ds.length capa) (fillTo (ds.map (Value.int .i64)) j (.int .i64 (-1))), .row 3 (.slice adb ds.length capb) (ds.map (Value.int .i64)), .row 3 (.slice adw ds.length capw) (ds.map (Value.int .i64))] ∧ Below B w wx) (fun i _ => ds.length - (intOf i).toNat)
      case atStart => exact ⟨0, by omega, rfl, H8.out, HB8.out⟩
      case round =>
        clear H8 HB8
        obtain ⟨j, hj, rfl, hlr, hbr⟩ := hrel
        by_cases hjl : j < ds.length
        · have dj : decide ((j : Int) < (ds.length : Int)) = true := decide_eq_true (by omega)
          have hj0 : (0 : Int) ≤ (j : Int) := by omega
          have hj1 : (j : Int) < (ds.length : Int) := by omega
          have hfl : (fillTo (ds.map (Value.int .i64)) j (.int .i64 (-1))).length = ds.length := by rw [fillTo_length _ _ _ (by rw [hld]; omega), hld]
          have hra := hlr.rowOf (i := 4) rfl
          rw [hfl] at hra
          obtain ⟨ga, rfl⟩ := own_form hra (by omega)
          have fa : ∃ y, wr.cell? ⟨ga, j, none⟩ = some y := by
            rw [World.ownsRow.cellAt hra j (by omega)]
            exact ⟨_, List.getElem?_eq_getElem (by rw [hfl]; exact hjl)⟩
          obtain ⟨y, fa⟩ := fa
          have fz := World.ownsRow.frozenAt hra j
          obtain ⟨h9, hb9⟩ := hlr.store (i := 4) rfl hfl j (.int .i64 (-1))
          rw [fillTo_set _ _ _ (by rw [hld]; exact hjl)] at h9
          have H9 := hide h9
          have HB9 := hide (hbr.trans hb9)
          clear h9 hb9 hra hlr hbr hfl
          go_wp2
          go_roundw
          case rel => exact ⟨j + 1, by omega, by go_num, H9.out, HB9.out⟩
          case measure => simp [intOf]; omega
        · have hjl' : j = ds.length := by omega
          subst hjl'
          have dj : decide ((ds.length : Int) < (ds.length : Int)) = false := decide_eq_false (by omega)
          have e9 := fillTo_all (ds.map (Value.int .i64)) (.int .i64 (-1))
          rw [hld] at e9
          rw [e9] at hlr
          obtain ⟨w9, hw9⟩ : ∃ w9, wr.alloc (.cells #[.int .i64 (-2)] 3) = w9 := ⟨_, rfl⟩
          have hb9 : Below wr.heap.size wr w9 := by rw [← hw9]; exact (Below.refl _ _).alloc (Nat.le_refl _) _
          obtain ⟨g9, hg9⟩ : ∃ g9, wr.heap.size = g9 := ⟨_, rfl⟩
          have h9 := hlr.below hb9
          have ha := h9.rowOf (i := 4) rfl
          have hs9 : Src Try.prog 1 28 (.slice (some ⟨g9, 0, none⟩) 1 1) 1 [.int .i64 (-2)] w9 := Src.ofSlice w9 Try.underlying28 ⟨g9, 0, none⟩ 1 1 [.int .i64 (-2)] rfl (fun i u hu => by rw [← hw9, ← hg9]; exact World.news_of_block (heap_alloc_new wr _) i u hu) (by intro u hu; simp at hu; subst hu; rfl)
          obtain ⟨v10, w10, hap10, hr10, hm10⟩ := run_append_rows (t := 28) (e := 3) Try.underlying28 info3' rfl (by decide) w9 28 28 (.slice ada ds.length capa) _ [.int .i64 (-2)] ha _ hs9 (by simp; omega)
          obtain ⟨h10, hb10⟩ := h9.moved (i := 4) rfl hr10 hm10
          have hB10 := hbr.trans ((hb9.mono hlr.base).trans hb10)
          have hl10 : (List.replicate ds.length (Value.int .i64 (-1)) ++ [Value.int .i64 (-2)]).length = ds.length + 1 := by simp
          rw [hl10] at hr10
          obtain ⟨ad10, cap10, e10, _, _, _⟩ := row_at hr10
          subst e10
          obtain ⟨g10, rfl⟩ := own_form hr10 (by omega)
          have ROWA : Hid (∀ (wx : World) (L : List Item), Lies B wx L → L[4]? = some (.row 3 (.slice (some ⟨g10, 0, none⟩) (ds.length + 1) cap10) (List.replicate ds.length (Value.int .i64 (-1)) ++ [Value.int .i64 (-2)])) → wx.cell? ⟨g10, ds.length, none⟩ = some (.int .i64 (-2)) ∧ (0 < ds.length → wx.cell? ⟨g10, 0, none⟩ = some (.int .i64 (-1)))) := fun wx L hx hi => by
            have hq := hx.rowOf hi
            rw [hl10] at hq
            refine ⟨?_, fun hp => ?_⟩
            · rw [World.ownsRow.cellAt hq ds.length (by omega)]
              simp
            · rw [World.ownsRow.cellAt hq 0 (by omega), List.getElem?_append_left (by simpa using hp)]
              simp [hp]
          have h10' : Lies B w10 [.disk p D, .row 9 (.slice ad1 ks.length cap1) (fillTo (ks.map encStr) k wrt), .row 9 (.slice ad2 ks.length cap2) (ks.map encStr), .row 9 (.slice (some ⟨g3, 0, none⟩) ks.length cap3) (ks.map encStr), .row 3 (.slice (some ⟨g10, 0, none⟩) (ds.length + 1) cap10) (List.replicate ds.length (Value.int .i64 (-1)) ++ [Value.int .i64 (-2)]), .row 3 (.slice adb ds.length capb) (ds.map (Value.int .i64)), .row 3 (.slice adw ds.length capw) (ds.map (Value.int .i64))] := h10
          have H10 := hide h10'
          have HB10 := hide hB10
          have hb := h10'.rowOf (i := 5) rfl
          have hw := h10'.rowOf (i := 6) rfl
          rw [hld] at hb hw
          obtain ⟨_, _, e11, hrb, _, _⟩ := row_at hb
          obtain ⟨_, _, e12, hrw, _, _⟩ := row_at hw
          cases e11
          cases e12
          have hc := sameInts_any w10 adb adw capb capw ds ds hrb hrw (by unfold maxLen; omega) (by unfold maxLen; omega)
          clear h9 ha hs9 h10 h10' hb hw hrb hrw hb9 hb10 hr10 hm10 hlr hbr hB10 e9 hl10
          go_wp2_with (at_builtin; refine wpList_append_run rfl _ _ _ rfl hap10 ?_; go_frame)
          refine hc.mono ?_
          rintro e w11 ⟨rfl, hb⟩
          have h11 := H10.out.below hb
          have HB11 := hide (HB10.out.trans (hb.mono H10.out.base))
          have f3 := ROW.out _ _ h11 rfl
          replace hc := s_dirty (i := 0) h11 rfl s HSZ.out
          rw [HDS.out] at hc
          have db : (ds == ds) = true := by simp
          have HDB := hide db
          rw [db]
          clear hb h11 HB10 H10 hap10 db
          go_wp2_with fail
          refine hc.mono ?_
          rintro e w12 ⟨v12, rfl, hr12, h12, hb⟩
          have HB12 := hide (HB11.out.trans hb)
          rw [hld] at hr12
          obtain ⟨ad12, cap12, e12, hrd, _, _⟩ := row_at hr12
          subst e12
          have hw := h12.rowOf (i := 6) rfl
          rw [hld] at hw
          obtain ⟨_, _, e12, hrw, _, _⟩ := row_at hw
          cases e12
          replace hc := sameInts_any w12 ad12 adw cap12 capw ds ds hrd hrw (by unfold maxLen; omega) (by unfold maxLen; omega)
          rw [HDB.out] at hc
          have H12 := hide h12
          clear hb h12 HB11 hr12 hrd hrw hw f3
          go_wp2_with fail
          refine hc.mono ?_
          rintro e w13 ⟨rfl, hb⟩
          have h13 := H12.out.below hb
          have HB13 := hide (HB12.out.trans (hb.mono H12.out.base))
          obtain ⟨fl, fz⟩ := ROWA.out _ _ h13 rfl
          have hfl1 : (fillTo (ks.map encStr) k wrt).length = ks.length := by rw [fillTo_length _ _ _ (by rw [hlm]; omega), hlm]
          have hr1 := h13.rowOf (i := 1) rfl
          rw [hfl1] at hr1
          obtain ⟨g1, rfl⟩ := own_form hr1 (by omega)
          have fy : ∃ y, w13.cell? ⟨g1, k, none⟩ = some y := by
            rw [World.ownsRow.cellAt hr1 k (by omega)]
            exact ⟨_, List.getElem?_eq_getElem (by rw [hfl1]; exact hlt)⟩
          obtain ⟨y, fy⟩ := fy
          have fzy := World.ownsRow.frozenAt hr1 k
          obtain ⟨h14, hb14⟩ := h13.store (i := 1) rfl hfl1 k wrt
          rw [fillTo_set _ _ _ (by rw [hlm]; exact hlt)] at h14
          have h14' : Lies B (w13.setCell ⟨g1, k, none⟩ wrt) ([.disk p D, .row 9 (.slice (some ⟨g1, 0, none⟩) ks.length cap1) (fillTo (ks.map encStr) (k + 1) wrt), .row 9 (.slice ad2 ks.length cap2) (ks.map encStr), .row 9 (.slice (some ⟨g3, 0, none⟩) ks.length cap3) (ks.map encStr)] ++ [.row 3 (.slice (some ⟨g10, 0, none⟩) (ds.length + 1) cap10) (List.replicate ds.length (Value.int .i64 (-1)) ++ [Value.int .i64 (-2)]), .row 3 (.slice adb ds.length capb) (ds.map (Value.int .i64)), .row 3 (.slice adw ds.length capw) (ds.map (Value.int .i64)), .row 3 (.slice ad12 ds.length cap12) (ds.map (Value.int .i64))]) := h14
          have H14 := hide h14'.drop
          have HB14 := hide (HB13.out.trans hb14)
          unfold wrt at H14 HB14
          clear h14 h14' hb14 h13 hr1 hfl1 hb hc HB12 HB13 H12
          by_cases hp : 0 < ds.length
          · have fz' := fz hp
            have dp : decide ((0 : Int) < (ds.length : Int)) = true := decide_eq_true (by omega)
            clear fz
            go_wp2
            go_roundw
            case rel => exact ⟨k + 1, by omega, by go_num, H14.out, HB14.out⟩
            case measure => simp [intOf]; omega
          · have dp : decide ((0 : Int) < (ds.length : Int)) = false := decide_eq_false (by omega)
            clear fz
            go_wp2
            go_roundw
            case rel => exact ⟨k + 1, by omega, by go_num, H14.out, HB14.out⟩
            case measure => simp [intOf]; omega
    · have hkl : k = ks.length := by omega
      subst hkl
      have dk : decide ((ks.length : Int) < (ks.length : Int)) = false := decide_eq_false (by omega)
      have e9 := fillTo_all (ks.map encStr) wrt
      rw [hlm] at e9
      rw [e9] at hlr
      obtain ⟨w9, hw9⟩ : ∃ w9, wr.alloc (.cells #[.string ⟨#[109, 111, 114, 101]⟩] 9) = w9 := ⟨_, rfl⟩
      have hb9 : Below wr.heap.size wr w9 := by rw [← hw9]; exact (Below.refl _ _).alloc (Nat.le_refl _) _
      obtain ⟨g9, hg9⟩ : ∃ g9, wr.heap.size = g9 := ⟨_, rfl⟩
      have h9 := hlr.below hb9
      have ha := h9.rowOf (i := 1) rfl
      have hs9 : Src Try.prog 1 26 (.slice (some ⟨g9, 0, none⟩) 1 1) 1 [.string ⟨#[109, 111, 114, 101]⟩] w9 := Src.ofSlice w9 Try.underlying26 ⟨g9, 0, none⟩ 1 1 [.string ⟨#[109, 111, 114, 101]⟩] rfl (fun i u hu => by rw [← hw9, ← hg9]; exact World.news_of_block (heap_alloc_new wr _) i u hu) (by intro u hu; simp at hu; subst hu; rfl)
      obtain ⟨v10, w10, hap10, hr10, hm10⟩ := run_append_rows (t := 26) (e := 9) Try.underlying26 info9' rfl (by decide) w9 26 26 (.slice ad1 ks.length cap1) (List.replicate ks.length wrt) [.string ⟨#[109, 111, 114, 101]⟩] ha _ hs9 (by simp; omega)
      obtain ⟨h10, hb10⟩ := h9.moved (i := 1) rfl hr10 hm10
      have hB10 := hbr.trans ((hb9.mono hlr.base).trans hb10)
      have hl10 : (List.replicate ks.length wrt ++ [Value.string ⟨#[109, 111, 114, 101]⟩]).length = ks.length + 1 := by simp
      rw [hl10] at hr10
      obtain ⟨ad10, cap10, e10, _, _, _⟩ := row_at hr10
      subst e10
      obtain ⟨g10, rfl⟩ := own_form hr10 (by omega)
      have ROWA : Hid (∀ (wx : World) (L : List Item), Lies B wx L → L[1]? = some (.row 9 (.slice (some ⟨g10, 0, none⟩) (ks.length + 1) cap10) (List.replicate ks.length wrt ++ [Value.string ⟨#[109, 111, 114, 101]⟩])) → wx.cell? ⟨g10, ks.length, none⟩ = some (.string ⟨#[109, 111, 114, 101]⟩) ∧ (0 < ks.length → wx.cell? ⟨g10, 0, none⟩ = some (.string ⟨#[119, 114, 105, 116, 116, 101, 110]⟩))) := fun wx L hx hi => by
        have hq := hx.rowOf hi
        rw [hl10] at hq
        refine ⟨?_, fun hp => ?_⟩
        · rw [World.ownsRow.cellAt hq ks.length (by omega)]
          simp
        · rw [World.ownsRow.cellAt hq 0 (by omega), List.getElem?_append_left (by simpa using hp)]
          simp [hp, wrt]
      have h10' : Lies B w10 [.disk p D, .row 9 (.slice (some ⟨g10, 0, none⟩) (ks.length + 1) cap10) (List.replicate ks.length wrt ++ [Value.string ⟨#[109, 111, 114, 101]⟩]), .row 9 (.slice ad2 ks.length cap2) (ks.map encStr), .row 9 (.slice ad3 ks.length cap3) (ks.map encStr)] := h10
      have H10 := hide h10'
      have HB10 := hide hB10
      have hb := h10'.rowOf (i := 2) rfl
      have hw := h10'.rowOf (i := 3) rfl
      rw [hlm] at hb hw
      obtain ⟨_, _, e11, hrb, _, _⟩ := row_at hb
      obtain ⟨_, _, e12, hrw, _, _⟩ := row_at hw
      cases e11
      cases e12
      have hc := sameTexts_any w10 ad2 ad3 cap2 cap3 ks ks hrb hrw (by unfold maxLen; omega) (by unfold maxLen; omega)
      have db : (ks == ks) = true := by simp
      have HDB := hide db
      rw [db] at hc
      clear h9 ha hs9 h10 h10' hb hw hrb hrw hb9 hb10 hr10 hm10 hlr hbr hB10 e9 hl10 db
      go_wp2_with (at_builtin; refine wpList_append_run rfl _ _ _ rfl hap10 ?_; go_frame)
      refine hc.mono ?_
      rintro e w11 ⟨rfl, hb⟩
      have h11 := H10.out.below hb
      have HB11 := hide (HB10.out.trans (hb.mono H10.out.base))
      replace hc := s_list (i := 0) h11 rfl
      rw [hks] at hc
      clear hb h11 HB10 H10 hap10
      go_wp2_with fail
      refine hc.mono ?_
      rintro e w12 ⟨v12, rfl, hr12, h12, hb⟩
      have HB12 := hide (HB11.out.trans hb)
      rw [hlm] at hr12
      obtain ⟨ad12, cap12, e12, hrd, _, _⟩ := row_at hr12
      subst e12
      have hw := h12.rowOf (i := 3) rfl
      rw [hlm] at hw
      obtain ⟨_, _, e12, hrw, _, _⟩ := row_at hw
      cases e12
      replace hc := sameTexts_any w12 ad12 ad3 cap12 cap3 ks ks hrd hrw (by unfold maxLen; omega) (by unfold maxLen; omega)
      rw [HDB.out] at hc
      have H12 := hide h12
      clear hb h12 HB11 hr12 hrd hrw hw
      go_wp2_with fail
      refine hc.mono ?_
      rintro e w13 ⟨rfl, hb⟩
      have h13 := H12.out.below hb
      have HB13 := hide (HB12.out.trans (hb.mono H12.out.base))
      obtain ⟨fl, fz⟩ := ROWA.out _ _ h13 rfl
      clear h13 hb hc HB12 H12
      by_cases hp : 0 < ks.length
      · have fz' := fz hp
        have dp : ((ks.length : Int) == 0) = false := beq_eq_false_iff_ne.2 (by omega)
        clear fz
        go_wp2
        go_ret
        exact ⟨rfl, HB13.out⟩
      · have dp : ((ks.length : Int) == 0) = true := beq_iff_eq.2 (by omega)
        clear fz
        go_wp2
        go_ret
        exact ⟨rfl, HB13.out⟩
end Go.Proofs.Ytcmhfpiglacdaaa
