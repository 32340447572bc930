/-
  find: the segments that stand on the disk, by rising numbers.
-/
import Derived.Test.YtdffmmiegpndkaaGreatDoorWSort
import Derived.Test.YtdffmmiegpndkaaGreatDoorText
namespace Go.Proofs.YtdffmmiegpndkaaGreatDoor
open Go.RowKit Go.Maps
set_option linter.unusedVariables false
theorem wpList_appS {P : Program} {ops : Array Oper} {rest : List Oper} {o : Oper} {a : Act} {w w' : World} {Q : Exit → Act → World → Prop} {v : Value} (hg : o.guard = none) (s x : Operand) (tys : Array TypeId) (ho : o.op = .call { callee := .builtin .append, args := #[s, x], argTypes := tys }) (h : (Builtin.append_ tys o.type #[a.eval s, a.eval x]).run P w = .ok v w') (k : wpList P ops Q rest (a.put o.dst v) w') : wpList P ops Q (o :: rest) a w :=
  wpList_plain hg fun K hK => wpRun (run_append_op s x tys ho h) (hK _ _ k)
def foundL (A : AD) (nm : Key) : List Int := A.list.filterMap (fun f => numOf f nm)
def numsL (A : AD) (nm : Key) : List Int := sortN (foundL A nm)
def consec (ns : List Int) : Bool := (List.range ns.length).all fun i => ns.getD i 0 == ns.getD 0 0 + (i : Int)
theorem numOf_range {f k : Key} {v : Int} (h : numOf f k = some v) : 0 ≤ v ∧ v ≤ 9999999 := by
  unfold numOf at h
  split at h
  · split at h
    · split at h
      · rename_i hh; cases h; exact ⟨hh.1, hh.2.1⟩
      · cases h
    · cases h
  · cases h
theorem list_names {A : AD} (hok : A.Ok) : ∀ k ∈ A.list, k.length ≤ 32 := by
  intro k hk
  unfold AD.list at hk
  split at hk
  · cases hk
  · obtain ⟨q, hq, rfl⟩ := List.mem_map.1 hk
    have := hok.names q hq
    unfold nameOk at this
    simp at this
    omega
theorem list_few {A : AD} (hok : A.Ok) : A.list.length ≤ 16 := by
  unfold AD.list
  split
  · simp
  · unfold fkeys; rw [List.length_map]; exact hok.few
theorem found_few {A : AD} (hok : A.Ok) (nm : Key) : (foundL A nm).length ≤ 16 := Nat.le_trans (List.length_filterMap_le _ _) (list_few hok)
theorem numsL_length (A : AD) (nm : Key) : (numsL A nm).length = (foundL A nm).length := sortN_length _
theorem numsL_range {A : AD} {nm : Key} {x : Int} (h : x ∈ numsL A nm) : 0 ≤ x ∧ x ≤ 9999999 := by
  have : x ∈ foundL A nm := (List.mergeSort_perm _ _).mem_iff.1 h
  obtain ⟨f, _, hf⟩ := List.mem_filterMap.1 this
  exact numOf_range hf
theorem set_self {α : Type} {L : List α} {j : Nat} {x : α} (h : L[j]? = some x) : L.set j x = L := by
  obtain ⟨hl, rfl⟩ := List.getElem?_eq_some_iff.1 h
  exact List.set_getElem_self hl
theorem set_app {α : Type} {L M : List α} {j : Nat} (x : α) (h : j < L.length) : (L ++ M).set j x = L.set j x ++ M := by
  rw [List.set_append, if_pos h]
set_option maxRecDepth 100000 in
set_option maxHeartbeats 2000000 in
theorem wfind_any {B : Nat} {w : World} {L : List Item} {i j l p : Nat} {A : AD} {g : AL} (h : Lies B w L) (hi : L[i]? = some (.disk p A)) (hj : L[j]? = some (.log l p g)) (hg0 : g.segs = []) (hnm : g.name.size ≤ 24) (he : Env B w) :
    Calls Tryz.prog 33 #[.pointer (some ⟨l, 0, none⟩)] w fun e w' => e = .returned (.bool (consec (numsL A g.name.data.toList))) ∧ Lies B w' (L.set j (.log l p { g with segs := (numsL A g.name.data.toList).map seg0 })) ∧ Below B w w' := by
  have hok := h.ok hi
  have hjl := (List.getElem?_eq_some_iff.1 hj).1
  obtain ⟨v0, r0, hat0, hBl⟩ := h.logAt hj
  have HL := hide h
  have HE := hide he
  have c0 := hat0.c0
  clear hat0 h he
  go_enter Tryz.func33, Tryz.ntmps33
  go_wp2_with fail
  refine (s_list HL.out hi).mono ?_
  rintro e w1 ⟨vr, rfl, hrow, hL1, hb1⟩
  obtain ⟨ad, cap, rfl, _, _, hmx⟩ := row_at hrow
  obtain ⟨ks, hks⟩ : ∃ ks, A.list = ks := ⟨_, rfl⟩
  have HF : Hid (foundL A g.name.data.toList = ks.filterMap (fun f => numOf f g.name.data.toList)) := by show _ = _; unfold foundL; rw [hks]
  have HNm : Hid (∀ k ∈ ks, k.length ≤ 32) := by show ∀ _ ∈ _, _; rw [← hks]; exact list_names hok
  have HFw : Hid (ks.length ≤ 16) := by show _ ≤ _; rw [← hks]; exact list_few hok
  rw [hks, List.length_map] at hL1 hrow hmx ⊢
  have hgg : g = { g with segs := ([] : List Int).map seg0 } := by rw [List.map_nil, ← hg0]
  have HL1 : Hid (Lies B w1 ((L.set j (.log l p { g with segs := ([] : List Int).map seg0 })) ++ [.row 9 (.slice ad ks.length cap) (ks.map encStr)])) := by
    show Lies _ _ _
    rw [← hgg, set_self hj]
    exact hL1
  have HB1 := hide hb1
  clear hL1 hrow hb1 hks hgg hmx c0
  unfold maxLen at *
  go_wp2
  go_loopw [15] (fun ix wr => ∃ k : Nat, k ≤ ks.length ∧ ix = .int .i64 (k : Int) ∧ Lies B wr ((L.set j (.log l p { g with segs := ((ks.take k).filterMap (fun f => numOf f g.name.data.toList)).map seg0 })) ++ [.row 9 (.slice ad ks.length cap) (ks.map encStr)]) ∧ Below B w wr) (fun ix _ => ks.length - (intOf ix).toNat)
  case atStart => exact ⟨0, by omega, rfl, by rw [List.take_zero]; exact HL1.out, HB1.out⟩
  case round =>
    obtain ⟨k, hk, rfl, hLr, hbr⟩ := hrel
    have hj' : ((L.set j (.log l p { g with segs := ((ks.take k).filterMap (fun f => numOf f g.name.data.toList)).map seg0 })) ++ [.row 9 (.slice ad ks.length cap) (ks.map encStr)])[j]? = some (.log l p { g with segs := ((ks.take k).filterMap (fun f => numOf f g.name.data.toList)).map seg0 }) := by
      rw [List.getElem?_append_left (by rw [List.length_set]; exact hjl), List.getElem?_set_self hjl]
    have HJ := hide hj'
    by_cases hlt : k < ks.length
    · obtain ⟨S, ⟨hrw, _⟩, _⟩ := hLr.get (i := L.length) (it := .row 9 (.slice ad ks.length cap) (ks.map encStr)) (by rw [List.getElem?_append_right (by rw [List.length_set]; exact Nat.le_refl _), List.length_set, Nat.sub_self]; rfl)
      obtain ⟨ad', cap', hv, hrowat, _, _⟩ := row_at hrw
      rw [List.length_map] at hv
      cases hv
      rcases hrowat with h0 | ⟨b, o, rfl, hbl, hcs⟩
      · rw [List.map_eq_nil_iff.1 h0] at hlt; exact absurd hlt (by simp)
      have f0 : wr.cell? ⟨b, o + k, none⟩ = some (.string ⟨ks[k].toArray⟩) := by rw [hcs k (by simpa using hlt), List.getElem?_map, List.getElem?_eq_getElem hlt]; rfl
      obtain ⟨x, hx⟩ : ∃ x, ks[k] = x := ⟨_, rfl⟩
      have hxl : x.length ≤ 32 := by rw [← hx]; exact HNm.out _ (List.getElem_mem hlt)
      have hxs : (⟨x.toArray⟩ : ByteArray).size ≤ 100 := by show x.toArray.size ≤ 100; rw [List.size_toArray]; omega
      rw [hx] at f0
      have HTk : Hid ((ks.take (k + 1)).filterMap (fun f => numOf f g.name.data.toList) = (ks.take k).filterMap (fun f => numOf f g.name.data.toList) ++ (numOf x g.name.data.toList).toList) := by
        show _ = _
        rw [List.take_succ_eq_append_getElem hlt, hx, List.filterMap_append]
        cases hq : numOf x g.name.data.toList <;> simp [hq]
      have dk : decide ((k : Int) < (ks.length : Int)) = true := decide_eq_true (by omega)
      have dk' : decide (k < ks.length) = true := decide_eq_true hlt
      have hk0 : (0 : Int) ≤ (k : Int) := by omega
      have hk1 : (k : Int) < (ks.length : Int) := by omega
      have hfw := HFw.out
      obtain ⟨v, r, hat, _⟩ := hLr.logAt hj'
      have c1 := hat.c1
      have HLr := hide hLr
      have HBr := hide hbr
      obtain ⟨X, hX⟩ : ∃ X : ByteArray, X = ⟨x.toArray⟩ := ⟨_, rfl⟩
      have HX : Hid (X.data.toList = x) := by show _ = _; rw [hX]
      rw [← hX] at f0 hxs
      clear hLr hbr hcs hrw hx hj' hat hX
      go_wp2_with fail
      refine (number_any X g.name _ hxs hnm (HE.out.below HBr.out) HLr.out.base).mono ?_
      rintro e w2 ⟨xn, rfl, hxn, hb2⟩
      rw [HX.out] at hxn ⊢
      have hL2 := HLr.out.below hb2
      have HB2 := hide (HBr.out.trans (hb2.mono HLr.out.base))
      cases hq : numOf x g.name.data.toList with
      | none =>
        rw [hq] at HTk
        have HL2 := hide hL2
        clear hL2 hxn hb2 hq
        go_wp2
        go_roundw
        case rel =>
          refine ⟨k + 1, by omega, by go_num, ?_, HB2.out⟩
          rw [HTk.out, Option.toList_none, List.append_nil]
          exact HL2.out
        case measure => simp [intOf]; omega
      | some z =>
        rw [hq] at HTk
        obtain rfl := hxn z hq
        obtain ⟨v, r, hat, _, hnew, _⟩ := hL2.newSegs HJ.out
        have hlen : (({ g with segs := ((ks.take k).filterMap (fun f => numOf f g.name.data.toList)).map seg0 } : AL).segs).length ≤ 10000000 := by
          show (((ks.take k).filterMap (fun f => numOf f g.name.data.toList)).map seg0).length ≤ _
          rw [List.length_map]
          have := List.length_filterMap_le (fun f => numOf f g.name.data.toList) (ks.take k)
          rw [List.length_take] at this
          omega
        obtain ⟨g1, hg1⟩ : ∃ g1, w2.heap.size = g1 := ⟨_, rfl⟩
        obtain ⟨wa, hwa⟩ : ∃ wa, w2.alloc (.cells (seg0 xn).cs.toArray 66) = wa := ⟨_, rfl⟩
        obtain ⟨v', r', w3, hap, hrow3, ht3, hown3⟩ := app_seg hat.row hlen (seg0 xn) 55 hwa hg1
        obtain ⟨hc3, hf3, hL3, hb3⟩ := hnew w3 v' r' _ hrow3 ht3 hown3
        obtain ⟨ad4, cap4, hv4, _⟩ := hrow3
        obtain ⟨ad5, cap5, hv5, _⟩ := hat.row
        obtain ⟨n4, hn4⟩ : ∃ n, (({ g with segs := ((ks.take k).filterMap (fun f => numOf f g.name.data.toList)).map seg0 } : AL).segs ++ [seg0 xn]).length = n := ⟨_, rfl⟩
        obtain ⟨n5, hn5⟩ : ∃ n, (({ g with segs := ((ks.take k).filterMap (fun f => numOf f g.name.data.toList)).map seg0 } : AL).segs).length = n := ⟨_, rfl⟩
        rw [hn4] at hv4
        rw [hn5] at hv5
        subst hv4 hv5
        have c3 := hat.c3
        have HL3 : Hid (Lies B (w3.setCell ⟨l, 3, none⟩ (.slice ad4 n4 cap4)) ((L.set j (.log l p { g with segs := ((ks.take (k + 1)).filterMap (fun f => numOf f g.name.data.toList)).map seg0 })) ++ [.row 9 (.slice (some ⟨b, o, none⟩) ks.length cap) (ks.map encStr)])) := by
          show Lies _ _ _
          rw [HTk.out, Option.toList_some, List.map_append]
          rw [set_app _ (by rw [List.length_set]; exact hjl), List.set_set] at hL3
          exact hL3
        have HB3 := hide (HB2.out.trans hb3)
        have hwa' : w2.alloc (.cells #[.int .i64 xn, .int .i64 0, .int .i64 0] 66) = wa := hwa
        clear hL2 hxn hb2 hq hat hnew hwa hL3 hb3 hn4 hn5 hlen ht3 hown3
        go_wp2_with (at_builtin; refine wpList_appS rfl _ _ _ rfl hap ?_; try go_frame)
        go_roundw
        case rel => exact ⟨k + 1, by omega, by go_num, HL3.out, HB3.out⟩
        case measure => simp [intOf]; omega
    · have hkl : k = ks.length := by omega
      subst hkl
      rw [List.take_length, ← HF.out] at hLr HJ
      have dk : decide ((ks.length : Int) < (ks.length : Int)) = false := decide_eq_false (by omega)
      obtain ⟨v, r, hat, _⟩ := hLr.logAt HJ.out
      have c3 := hat.c3
      have hfl : (foundL A g.name.data.toList).length ≤ 1000 := by have := found_few hok g.name.data.toList; omega
      obtain ⟨ad3, cap3, hv3, _⟩ := hat.row
      obtain ⟨n3, hn3⟩ : ∃ n, (({ g with segs := (foundL A g.name.data.toList).map seg0 } : AL).segs).length = n := ⟨_, rfl⟩
      rw [hn3] at hv3
      subst hv3
      have hso := sort_any hLr HJ.out (foundL A g.name.data.toList) rfl hfl c3
      have HBr := hide hbr
      have HSo := hide hso
      clear hLr hbr hn3 hat hfl hso
      go_wp2_with fail
      refine HSo.out.mono ?_
      rintro e w2 ⟨rfl, hL2, hb2⟩
      rw [set_app _ (by rw [List.length_set]; exact hjl), List.set_set] at hL2
      have hL3 := hL2.drop
      obtain ⟨ns, hns⟩ : ∃ ns, numsL A g.name.data.toList = ns := ⟨_, rfl⟩
      have hrng : ∀ x ∈ ns, 0 ≤ x ∧ x ≤ 9999999 := fun x hx => numsL_range (by rw [hns]; exact hx)
      have hnl : ns.length ≤ 16 := by rw [← hns, numsL_length]; exact found_few hok _
      change Lies B w2 (L.set j (.log l p { g with segs := (numsL A g.name.data.toList).map seg0 })) at hL3
      rw [hns] at hL3
      have HNS := hide hns
      have hj2 : (L.set j (.log l p { g with segs := ns.map seg0 }))[j]? = some (.log l p { g with segs := ns.map seg0 }) := List.getElem?_set_self hjl
      have HJ2 := hide hj2
      have HL3 := hide hL3
      have HB3 := hide (HBr.out.trans hb2)
      obtain ⟨v, r, hat, _⟩ := hL3.logAt hj2
      have c3 := hat.c3
      have HR := hide hat.row
      obtain ⟨ad4, cap4, hv4, _⟩ := hat.row
      have hlm : (({ g with segs := ns.map seg0 } : AL).segs).length = ns.length := List.length_map _
      rw [hlm] at hv4
      subst hv4
      have HRg := hide hrng
      have HBl : Hid (l < w2.heap.size) := hide (lt_of_some hat.cells)
      have HRlt : Hid (∀ b, r = some b → b < w2.heap.size) := hide hat.row.lt
      clear hL2 hL3 hb2 hj2 hat hlm hns HF HSo HBr HJ hrng
      have HC3 := hide c3
      go_wp2
      go_loopw [51] (fun ix wr => ∃ k : Nat, k ≤ ns.length ∧ ix = .int .i64 (k : Int) ∧ (∀ q, q < k → ns.getD q 0 = ns.getD 0 0 + (q : Int)) ∧ Below w2.heap.size w2 wr) (fun ix _ => ns.length - (intOf ix).toNat)
      case atStart => exact ⟨0, by omega, rfl, fun q hq => absurd hq (by omega), Below.refl _ _⟩
      case round =>
        obtain ⟨k, hk, rfl, hall, hbr⟩ := hrel
        have HA := hide hall
        clear hall
        by_cases hlt : k < ns.length
        · have dk : decide ((k : Int) < (ns.length : Int)) = true := decide_eq_true (by omega)
          have dk' : decide (k < ns.length) = true := decide_eq_true hlt
          have hk0 : (0 : Int) ≤ (k : Int) := by omega
          have hk1 : (k : Int) < (ns.length : Int) := by omega
          have hk2 : (0 : Int) < (ns.length : Int) := by omega
          obtain ⟨ad5, cap5, hv5, hlc5, hf5⟩ := HR.out
          rcases hf5 with ⟨_, hcp, _⟩ | ⟨b, off, had, hr, hbl, hcs, _, _⟩
          · exfalso
            change (ns.map seg0).length ≤ cap5 at hlc5
            rw [List.length_map] at hlc5
            omega
          · have hv6 : ad4 = some ⟨b, off, none⟩ := by injection hv5 with h _ _; rw [h]; exact had
            subst hv6
            have hcell : ∀ i0, i0 < ns.length → ∀ j0, j0 < 3 → wr.cell? ⟨b, off + i0 * 3 + j0, none⟩ = (seg0 (ns.getD i0 0)).cs[j0]? := fun i0 hi0 j0 hj0 => by
              rw [World.cell?_of_block (a := ⟨b, off + i0 * 3 + j0, none⟩) (hbr.block b hbl), Nat.add_assoc, hcs _ (by show i0 * 3 + j0 < 3 * (ns.map seg0).length; rw [List.length_map]; omega)]
              show (cellsG (ns.map seg0))[i0 * 3 + j0]? = _
              rw [Nat.mul_comm i0 3, cellsG_get _ _ (by rw [List.length_map]; exact hi0) _ hj0, List.getElem_map, List.getD_eq_getElem?_getD, List.getElem?_eq_getElem hi0]
              rfl
            obtain ⟨x, hx⟩ : ∃ x, ns.getD k 0 = x := ⟨_, rfl⟩
            obtain ⟨y, hy⟩ : ∃ y, ns.getD 0 0 = y := ⟨_, rfl⟩
            have f0 : wr.cell? ⟨b, off + k * 3, none⟩ = some (.int .i64 x) := by have := hcell k hlt 0 (by omega); rw [hx] at this; exact this
            have f1 : wr.cell? ⟨b, off + k * 3 + 1, none⟩ = some (.int .i64 0) := by have := hcell k hlt 1 (by omega); rw [hx] at this; exact this
            have f2 : wr.cell? ⟨b, off + k * 3 + 2, none⟩ = some (.int .i64 0) := by have := hcell k hlt 2 (by omega); rw [hx] at this; exact this
            have f3 : wr.cell? ⟨b, off, none⟩ = some (.int .i64 y) := by have := hcell 0 (by omega) 0 (by omega); rw [hy, Nat.zero_mul] at this; exact this
            have c3' : wr.cell? ⟨l, 3, none⟩ = some (.slice (some ⟨b, off, none⟩) ns.length cap4) := by rw [World.cell?_of_block (hbr.block l HBl.out)]; exact HC3.out
            clear hcs hcell
            have hxr : 0 ≤ x ∧ x ≤ 9999999 := HRg.out x (by rw [← hx, List.getD_eq_getElem?_getD, List.getElem?_eq_getElem hlt]; exact List.getElem_mem hlt)
            have hyr : 0 ≤ y ∧ y ≤ 9999999 := HRg.out y (by rw [← hy, List.getD_eq_getElem?_getD, List.getElem?_eq_getElem (show 0 < ns.length by omega)]; exact List.getElem_mem _)
            obtain ⟨w5, hw5⟩ : ∃ w5, wr.alloc (.cells #[.int .i64 x, .int .i64 0, .int .i64 0] 66) = w5 := ⟨_, rfl⟩
            have hb5 : Below wr.heap.size wr w5 := by rw [← hw5]; exact (Below.refl _ _).alloc (Nat.le_refl _) _
            have hbs := hbr.size
            have g0 : w5.cell? ⟨wr.heap.size, 0, none⟩ = some (.int .i64 x) := by rw [← hw5, cell_of_row _ wr.heap.size 0 _ _ (0, 0) (heap_alloc_new wr _)]; rfl
            have g1 : w5.cell? ⟨b, off, none⟩ = some (.int .i64 y) := by rw [World.cell?_of_block (hb5.block b (by omega))]; exact f3
            have g3 : w5.cell? ⟨l, 3, none⟩ = some (.slice (some ⟨b, off, none⟩) ns.length cap4) := by rw [World.cell?_of_block (hb5.block l (by have := HBl.out; omega))]; exact c3'
            have HX := hide hx
            have HY := hide hy
            have HB5 := hide (hbr.trans (hb5.mono hbs))
            obtain ⟨hs, hhs⟩ : ∃ s, wr.heap.size = s := ⟨_, rfl⟩
            have HW5 := hide hw5
            have HHS := hide hhs
            rw [hhs] at g0
            clear hx hy hb5 hbs hbr hw5 hhs
            go_upto_region 12 with fail
            rw [HW5.out, HHS.out]
            clear f0 f1 f2 f3 c3' c3 HHS HW5
            by_cases hq : x = y + (k : Int)
            · have hq1 : (x != y + (k : Int)) = false := by rw [hq]; simp
              have HQ := hide hq
              clear hq
              go_quiet (fail)
              go_wp2
              go_roundw
              case rel =>
                refine ⟨k + 1, by omega, by go_num, fun q hqk => ?_, drewN_below HB5.out _⟩
                rcases Nat.lt_or_ge q k with h | h
                · exact HA.out q h
                · have : q = k := by omega
                  rw [this, HX.out, HY.out, HQ.out]
              case measure => simp [intOf]; omega
            · have hq1 : (x != y + (k : Int)) = true := by simp [hq]
              have HQ := hide hq
              clear hq
              go_quiet (fail)
              go_wp2
              (try rw [Exit.noGoto_ret])
              go_ret
              refine ⟨?_, (by rw [HNS.out]; exact HL3.out.below (drewN_below HB5.out _)), ?_⟩
              · rw [HNS.out, show consec ns = false from ?_]
                · rfl
                · unfold consec
                  rw [List.all_eq_false]
                  refine ⟨k, List.mem_range.2 hlt, ?_⟩
                  rw [HX.out, HY.out]
                  simp [HQ.out]
              · exact HB3.out.trans ((drewN_below HB5.out _).mono HL3.out.base)
        · have hkl : k = ns.length := by omega
          subst hkl
          have dk : decide ((ns.length : Int) < (ns.length : Int)) = false := decide_eq_false (by omega)
          have HBr := hide hbr
          clear hbr
          go_wp2
          go_ret
          refine ⟨?_, ?_, ?_⟩
          · rw [HNS.out, show consec ns = true from ?_]
            · rfl
            · unfold consec
              rw [List.all_eq_true]
              intro q hq
              rw [HA.out q (List.mem_range.1 hq)]
              simp
          · rw [HNS.out]; exact HL3.out.below HBr.out
          · exact HB3.out.trans (HBr.out.mono HL3.out.base)
end Go.Proofs.YtdffmmiegpndkaaGreatDoor
