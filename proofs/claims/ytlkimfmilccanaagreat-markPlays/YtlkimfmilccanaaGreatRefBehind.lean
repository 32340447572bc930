/-
  The document's disk: behind.
-/
import Derived.Test.YtlkimfmilccanaaGreatRefFate
import Derived.Test.YtlkimfmilccanaaGreatRefCalls3
import Derived.Deep.CutRange
namespace Go.Proofs.YtlkimfmilccanaaGreat
open Go.RowKit Go.Maps Go.WideMaps
set_option linter.unusedVariables false
set_option linter.unusedSimpArgs false
theorem hits_fateR (ls : List FT) (k : Key) (s : Nat) : hits (ftOf ls k s) = decide ((fateR ls k (s : Int)).kind = 1 ∨ (fateR ls k (s : Int)).kind = 2) := by
  unfold ftOf fateR
  rw [firstF_abs]
  cases firstF ls k (s : Int) with
  | none => rfl
  | some x => rfl
def endD (F : AF) (ft : Nat → Option AFate) (k : Nat) : Nat := (F.dirtyL.take k).foldl (fun m s => if hits (ft s) = true then max m (min (64 * s + 64) F.seen.length) else m) F.safe.length
theorem endD_all (F : AF) (ft : Nat → Option AFate) : endD F ft F.dirtyL.length = F.len ft := by
  unfold endD AF.len AF.dirtyL
  rw [List.take_length, List.foldl_filter]
  congr 1
  funext m s
  by_cases h1 : F.dirty s = true
  · by_cases h2 : hits (ft s) = true
    · simp [h1, h2]
    · simp [h1, h2]
  · simp [h1]
theorem endD_succ (F : AF) (ft : Nat → Option AFate) (k : Nat) (h : k < F.dirtyL.length) : endD F ft (k + 1) = if hits (ft F.dirtyL[k]) = true then max (endD F ft k) (min (64 * F.dirtyL[k] + 64) F.seen.length) else endD F ft k := by
  unfold endD
  rw [take_snoc _ k h, List.foldl_append]
  rfl
theorem endD_le {F : AF} (h : F.Ok) (ft : Nat → Option AFate) : ∀ k, k ≤ F.dirtyL.length → endD F ft k ≤ F.seen.length
  | 0, _ => h.le
  | k + 1, hk => by
    have ih := endD_le h ft k (by omega)
    rw [endD_succ F ft k (by omega)]
    split <;> omega
def leftK (F : AF) (ft : Nat → Option AFate) (en k : Nat) : List UInt8 := (List.range k).map (F.after ft) ++ List.replicate (en - k) 0
theorem leftK_length (F : AF) (ft : Nat → Option AFate) (en k : Nat) (h : k ≤ en) : (leftK F ft en k).length = en := by
  unfold leftK; simp; omega
theorem leftK_set (F : AF) (ft : Nat → Option AFate) (en k : Nat) (h : k < en) : (leftK F ft en k).set k (F.after ft k) = leftK F ft en (k + 1) := by
  unfold leftK
  have e : en - k = (en - (k + 1)) + 1 := by omega
  rw [e, List.replicate_succ, List.set_append_right _ _ (by simp), List.range_succ, List.map_append]
  simp
theorem leftK_zero (F : AF) (ft : Nat → Option AFate) (en k : Nat) (h : k < en) (h0 : F.after ft k = 0) : leftK F ft en (k + 1) = leftK F ft en k := by
  unfold leftK
  have e : en - k = (en - (k + 1)) + 1 := by omega
  rw [e, List.replicate_succ, List.range_succ, List.map_append, List.append_assoc]
  simp [h0]
theorem leftK_all (F : AF) (ft : Nat → Option AFate) : leftK F ft (F.len ft) (F.len ft) = F.left ft := by
  unfold leftK AF.left; simp
/-- What a byte becomes, by the fate that is told. -/
theorem after_fateR {F : AF} (h : F.Ok) (ls : List FT) (k : Key) (i : Nat) (hi : i < F.seen.length) :
    F.after (ftOf ls k) i = if F.dirty (i / 64) = false ∨ (fateR ls k ((i / 64 : Nat) : Int)).kind = 1 then byteAt F.seen i else if (fateR ls k ((i / 64 : Nat) : Int)).kind = 2 then byteAt (fateR ls k ((i / 64 : Nat) : Int)).bytes.data.toList (i % 64) else byteAt F.safe i := by
  unfold AF.after
  cases hd : F.dirty (i / 64) with
  | false =>
    simp only [Bool.false_eq_true, if_false, true_or, if_true]
    have := h.clean i hi hd
    unfold byteAt
    rw [List.getD_eq_getElem?_getD, List.getD_eq_getElem?_getD, this.2]
  | true =>
    simp only [if_true]
    unfold ftOf fateR
    rw [firstF_abs]
    cases firstF ls k ((i / 64 : Nat) : Int) with
    | none =>
      show F.safe.getD i 0 = _
      have hno : ¬ (true = false ∨ ((none : Option FT).getD FT.zero).kind = 1) := fun hh => hh.elim (fun q => Bool.noConfusion q) (fun q => absurd q (by decide))
      rw [if_neg hno, if_neg (by decide)]
      rfl
    | some x =>
      show (if x.kind = 1 then F.seen.getD i 0 else if x.kind = 2 then x.bytes.data.toList.getD (i % 64) 0 else F.safe.getD i 0) = if (true = false ∨ x.kind = 1) then _ else if x.kind = 2 then _ else _
      by_cases h1 : x.kind = 1
      · rw [if_pos h1, if_pos (.inr h1)]; rfl
      · have hno : ¬ (true = false ∨ x.kind = 1) := fun hh => hh.elim (fun q => Bool.noConfusion q) h1
        rw [if_neg h1, if_neg hno]
        rfl
theorem byteAt_end {s : ByteArray} {i : Nat} (h : ¬ i < s.size) : byteAt s.data.toList i = 0 := by
  unfold byteAt
  rw [List.getD_eq_getElem?_getD, List.getElem?_eq_none (by rw [str_len]; omega)]
  rfl
/-- Two may come up. -/
theorem readyT2 {P : Program} {ops : Array Oper} {md : Region.Mode} {Q : Exit → Act → World → Prop} {S : World → Prop} {st : Nat} (i j : Nat) {oi oj : Oper} {fuel : Nat} {listed : Array Bool} {a : Act} {w : World} (hr : Region.ready md ops listed = [i, j]) (hoi : ops[i]? = some oi) (hwi : Region.wanted oi (yielded ops a.tmps) = true) (hoj : ops[j]? = some oj) (hwj : Region.wanted oj (yielded ops a.tmps) = true)
    (hi : ∀ K' : Act → World → Prop, Shut (∀ a w, (i ≠ st → S w) → ((i ≠ st → S w) → wpAnyT P md ops Q S st fuel (listed.setIfInBounds i true) a w) → K' a w) → Oper.wp P oi a w K' Q)
    (hj : ∀ K' : Act → World → Prop, Shut (∀ a w, (j ≠ st → S w) → ((j ≠ st → S w) → wpAnyT P md ops Q S st fuel (listed.setIfInBounds j true) a w) → K' a w) → Oper.wp P oj a w K' Q) : wpAnyT P md ops Q S st (fuel + 1) listed a w := by
  refine ⟨fun h0 => (by rw [hr] at h0; cases h0), fun q hq => ?_⟩
  rw [hr] at hq
  rcases List.mem_cons.1 hq with rfl | hq
  · exact wpOp_step hoi (fun K' hK => by
      rw [if_pos hwi]
      exact hi K' (fun a w hS hW => hK a w ⟨hS, hW hS⟩))
  · obtain rfl : q = j := by simpa using hq
    exact wpOp_step hoj (fun K' hK => by
      rw [if_pos hwj]
      exact hj K' (fun a w hS hW => hK a w ⟨hS, hW hS⟩))
set_option maxRecDepth 5000 in
set_option maxHeartbeats 16000000 in
theorem rBehind_any (w : World) (x : RF) (F : AF) (hF : F.Ok) (hab : x.abs.2 = F) (hds : x.ds = dirtyI F) (hrow : RowAt w x.ad (x.ds.map (Value.int .i64))) (ad : Option Addr) (cap : Nat) (ls : List FT) (hfa : FatesAt w ad ls) (hfl : ls.length ≤ 9223372036854775807) :
    Calls Tryz.prog 90 #[.agg x.cs, .slice ad ls.length cap] w fun e w' => ∃ Y : ByteArray, e = .returned (.agg #[.string x.name, .string Y, .string Y, .slice none 0 0]) ∧ Y.data.toList = F.left (ftOf ls x.name.data.toList) ∧ Below w.heap.size w w' := by
  obtain ⟨g, hg⟩ : ∃ g, w.heap.size = g := ⟨_, rfl⟩
  obtain ⟨w0, hw0⟩ : ∃ w0, (w.alloc (.cells x.cs 147)).alloc (.cells #[.string ⟨#[]⟩, .string ⟨#[]⟩, .string ⟨#[]⟩, .slice none 0 0] 147) = w0 := ⟨_, rfl⟩
  have hs0 : w0.heap.size = g + 2 := by rw [← hw0, ← hg]; simp
  have hkg : w0.heap[g]? = some (.cells x.cs 147 (0, 0)) := by
    rw [← hw0, Below.heap_alloc _ _ g (by rw [← hg]; simp), ← hg]; exact heap_alloc_new w _
  have hkr : w0.heap[g + 1]? = some (.cells #[.string ⟨#[]⟩, .string ⟨#[]⟩, .string ⟨#[]⟩, .slice none 0 0] 147 (0, 0)) := by
    have := heap_alloc_new (w.alloc (.cells x.cs 147)) (.cells #[.string ⟨#[]⟩, .string ⟨#[]⟩, .string ⟨#[]⟩, .slice none 0 0] 147)
    have e : (w.alloc (.cells x.cs 147)).heap.size = g + 1 := by rw [← hg]; simp
    rw [e, hw0] at this
    exact this
  have hb0 : Below w.heap.size w w0 := by
    rw [← hw0]
    exact ((Below.refl _ _).alloc (Nat.le_refl _) _).alloc (by simp) _
  obtain ⟨B0, hB0⟩ : ∃ B, w0.heap.size = B := ⟨_, rfl⟩
  have hgB : g + 2 = B0 := by omega
  have HBE := hide hB0
  have HKG : Hid (∀ w', Below B0 w0 w' → ∀ j, w'.cell? ⟨g, j, none⟩ = x.cs[j]?) := fun w' hb j => by
    rw [cell_of_row w' g j _ _ (0, 0) (by rw [hb.block g (by omega)]; exact hkg)]
  have HKR : Hid (∀ w', Below B0 w0 w' → w'.heap[g + 1]? = some (.cells #[.string ⟨#[]⟩, .string ⟨#[]⟩, .string ⟨#[]⟩, .slice none 0 0] 147 (0, 0))) := fun w' hb => by rw [hb.block (g + 1) (by omega)]; exact hkr
  have HRW : Hid (∀ w', Below B0 w0 w' → RowAt w' x.ad (x.ds.map (Value.int .i64))) := fun w' hb => (hrow.below hb0).below (by rw [hB0]; exact hb)
  have HFA : Hid (∀ w', Below B0 w0 w' → FatesAt w' ad ls) := fun w' hb => by
    have h1 : Below w.heap.size w w' := hb0.trans (hb.mono (by omega))
    by_cases he : ls = []
    · exact .inl he
    · rcases hfa with h | ⟨b, o, ha, hl, hc⟩
      · exact absurd h he
      · exact .inr ⟨b, o, ha, Nat.lt_of_lt_of_le hl h1.size, fun i hi j hj => by rw [← hc i hi j hj]; exact World.cell?_of_block (h1.block b hl)⟩
  have HBW : Hid (∀ w', Below B0 w0 w' → Below w.heap.size w w') := fun w' hb => hb0.trans (hb.mono (by omega))
  have hxse : x.seen.data.toList = F.seen := congrArg AF.seen hab
  have hxsa : x.safe.data.toList = F.safe := congrArg AF.safe hab
  obtain ⟨z, hz⟩ : ∃ z, x.seen.size = z := ⟨_, rfl⟩
  obtain ⟨zs, hzs⟩ : ∃ zs, x.safe.size = zs := ⟨_, rfl⟩
  have hzF : F.seen.length = z := by rw [← hxse, str_len, hz]
  have hzsF : F.safe.length = zs := by rw [← hxsa, str_len, hzs]
  have hzm : z ≤ 1048576 := by rw [← hzF]; exact hF.most
  have hzsz : zs ≤ z := by rw [← hzF, ← hzsF]; exact hF.le
  have hdl : x.ds.length = F.dirtyL.length := by rw [hds]; unfold dirtyI; rw [List.length_map]
  have hdm : x.ds.length ≤ 16384 := by rw [hdl]; exact AF.dirtyL_length hF
  have HDL := hide hdl
  have HF := hide hF
  have HDC : Hid (∀ q : Nat, x.ds.contains (q : Int) = F.dirty q) := fun q => congrFun (congrArg AF.dirty hab) q
  have HDS := hide hds
  have HZF := hide hzF
  have HZS := hide hzsF
  have HXE := hide hxse
  have HXA := hide hxsa
  obtain ⟨K, hK⟩ : ∃ K, x.name.data.toList = K := ⟨_, rfl⟩
  rw [hK]
  have HKN := hide hK
  have gc2 : w0.cell? ⟨g, 2, none⟩ = some (.string x.safe) := HKG.out w0 (Below.refl _ _) 2
  unfold RF.cs at hw0 ⊢
  clear hdl hs0 hkg hkr hb0 hB0 hrow hfa hab hds hxse hxsa hzF hzsF hF hK
  go_enter Tryz.func90, Tryz.ntmps90
  go_wp2
  clear gc2
  go_loopw [5, 6] (fun y i wr => ∃ k : Nat, k ≤ x.ds.length ∧ i = .int .i64 (k : Int) ∧ y = .int .i64 (endD F (ftOf ls K) k : Int) ∧ Below B0 w0 wr) (fun _ i _ => x.ds.length - (intOf i).toNat)
  case atStart => exact ⟨0, by omega, rfl, by rw [show endD F (ftOf ls K) 0 = F.safe.length from rfl, HZS.out], by first | exact Below.refl _ _ | (rw [hw0]; exact Below.refl _ _)⟩
  case round =>
    obtain ⟨k, hk, rfl, rfl, hbr⟩ := hrel
    have gc3 : wr.cell? ⟨g, 3, none⟩ = some (.slice x.ad x.ds.length x.cap) := HKG.out wr hbr 3
    by_cases hlt : k < x.ds.length
    · have hlt2 : k < F.dirtyL.length := by rw [← HDL.out]; exact hlt
      have ek : decide ((k : Int) < (x.ds.length : Int)) = true := decide_eq_true (by omega)
      have hk0 : (0 : Int) ≤ (k : Int) := by omega
      have hk1 : (k : Int) < (x.ds.length : Int) := by omega
      have hrow := HRW.out w0 (Below.refl _ _)
      rcases hrow with hrow | ⟨b, o, hxad, hbl0, hcs⟩
      · rw [List.map_eq_nil_iff.1 hrow] at hlt
        exact absurd hlt (by simp)
      have hsuc := endD_succ F (ftOf ls K) k hlt2
      have hdk : F.dirty F.dirtyL[k] = true := (AF.mem_dirtyL HF.out _).1 (List.getElem_mem hlt2)
      obtain ⟨d, hd⟩ : ∃ d, F.dirtyL[k] = d := ⟨_, rfl⟩
      rw [hd] at hsuc hdk
      have hd1 := AF.dirty_lt HF.out d hdk
      have HFDC : Hid (∀ w', Below B0 w0 w' → w'.cell? ⟨b, o + k, none⟩ = some (.int .i64 (d : Int))) := fun w' hb' => by
        rw [World.cell?_of_block (hb'.block b (by rw [← HBE.out]; exact hbl0)), hcs k (by rw [List.length_map]; omega), List.getElem?_map, HDS.out]
        unfold dirtyI
        rw [List.getElem?_map, List.getElem?_eq_getElem hlt2, hd]
        rfl
      have fd := HFDC.out wr hbr
      have hbl : b < wr.heap.size := Nat.lt_of_lt_of_le hbl0 hbr.size
      rw [hxad] at gc3
      have HXAD := hide hxad
      rw [hits_fateR] at hsuc
      obtain ⟨X, hX⟩ : ∃ X, fateR ls K (d : Int) = X := ⟨_, rfl⟩
      rw [hX, HZF.out] at hsuc
      obtain ⟨en, hen⟩ : ∃ en, endD F (ftOf ls K) k = en := ⟨_, rfl⟩
      have henz : en ≤ z := by rw [← hen, ← HZF.out]; exact endD_le HF.out _ k (by omega)
      rw [hen] at hsuc
      rw [hen]
      have HSUC := hide hsuc
      have gc0 : wr.cell? ⟨g, 0, none⟩ = some (.string x.name) := HKG.out wr hbr 0
      have HS1 : Hid (wr.cell? ⟨g, 0, none⟩ = some (.string x.name) ∧ wr.cell? ⟨g, 3, none⟩ = some (.slice (some ⟨b, o, none⟩) x.ds.length x.cap) ∧ wr.cell? ⟨b, o + k, none⟩ = some (.int .i64 (d : Int))) := ⟨gc0, gc3, fd⟩
      have hfd : FatesAt wr.drew ad ls := HFA.out wr.drew ⟨hbr.os, hbr.tape, hbr.output, hbr.size, hbr.block⟩
      have hfate := rFate_any wr.drew ad cap ls hfd hfl x.name (d : Int)
      rw [HKN.out, hX] at hfate
      have HFT := hide hfate
      have HAW : Hid (Below wr.heap.size wr (wr.alloc (.cells #[.string ⟨#[]⟩, .int .i64 0, .int .i64 0, .string ⟨#[]⟩] 140)).drew) := ⟨rfl, rfl, rfl, by show _ ≤ (wr.alloc _).heap.size; simp, fun b hb => Below.heap_alloc wr _ b hb⟩
      have hfate2 := rFate_any (wr.alloc (.cells #[.string ⟨#[]⟩, .int .i64 0, .int .i64 0, .string ⟨#[]⟩] 140)).drew ad cap ls (HFA.out _ (hbr.trans (HAW.out.mono (by rw [← HBE.out]; exact hbr.size)))) hfl x.name (d : Int)
      rw [HKN.out, hX] at hfate2
      have HFT2 := hide hfate2
      have HBL := hide hbl
      have HGW : Hid (g < wr.heap.size) := by have := hbr.size; rw [HBE.out] at this; show _ < _; omega
      have HBR := hide hbr
      clear hcs hxad hsuc hdk hd hX hen hbr hfd hfate hfate2 hbl hbl0
      unfold FT.cs at HFT HFT2
      go_upto_region 5 with fail
      go_cut [7] from 15 to 51 (fun s7 wx => ∃ gx, s7 = .pointer (some ⟨gx, 0, none⟩) ∧ B0 ≤ gx ∧ wx.heap[gx]? = some (.cells #[.string X.file, .int .i64 X.sector, .int .i64 X.kind, .string X.bytes] 140 (0, 0)) ∧ Below B0 w0 wx)
      case first =>
        refine wp_region_noPanic ?_
        refine wp_region_T (S := fun wx => wx.cell? ⟨g, 0, none⟩ = some (.string x.name) ∧ wx.cell? ⟨g, 3, none⟩ = some (.slice (some ⟨b, o, none⟩) x.ds.length x.cap) ∧ wx.cell? ⟨b, o + k, none⟩ = some (.int .i64 (d : Int))) 10 (by kernel_rfl) HS1.out (fun hHeld => ?_)
        refine tT 0 (some 22) (.slice ad ls.length cap) rfl hHeld ?_
        simp only [Act.put, pA, pB, pC]
        refine tT 1 (some 23) (.pointer (some ⟨g, 0, none⟩)) rfl hHeld ?_
        simp only [Act.put, pA, pB, pC]
        refine tU 2 (some 24) (.string x.name) rfl (fun w hw => by have hw' := hw.1; first | rfl | (go_simp; done) | (go_simp; rfl)) hHeld ?_
        simp only [Act.put, pA, pB, pC]
        refine tT 3 (some 25) (.pointer (some ⟨g, 3, none⟩)) rfl hHeld ?_
        simp only [Act.put, pA, pB, pC]
        refine tU 4 (some 26) (.slice (some ⟨b, o, none⟩) x.ds.length x.cap) rfl (fun w hw => by have hw' := hw.2.1; first | rfl | (go_simp; done) | (go_simp; rfl)) hHeld ?_
        simp only [Act.put, pA, pB, pC]
        refine tT 5 (some 27) (.int .i64 (k : Int)) rfl hHeld ?_
        simp only [Act.put, pA, pB, pC]
        refine tT 6 (some 28) (.pointer (some ⟨b, o + k, none⟩)) rfl hHeld ?_
        simp only [Act.put, pA, pB, pC]
        refine tU 7 (some 29) (.int .i64 (d : Int)) rfl (fun w hw => by have hw' := hw.2.2; first | rfl | (go_simp; done) | (go_simp; rfl)) hHeld ?_
        simp only [Act.put, pA, pB, pC]
        refine readyT2 8 9 (by kernel_rfl) rfl (by rfl) rfl (by rfl) (fun K' hK => ?_) (fun K' hK => ?_)
        · go_simp
          refine HFT.out.mono ?_
          rintro e w6 ⟨rfl, hb⟩
          try go_wp2_with fail
          have hb6 : Below wr.heap.size wr w6 := ⟨hb.os, hb.tape, hb.output, hb.size, hb.block⟩
          have hS6 : w6.cell? ⟨g, 0, none⟩ = some (.string x.name) ∧ w6.cell? ⟨g, 3, none⟩ = some (.slice (some ⟨b, o, none⟩) x.ds.length x.cap) ∧ w6.cell? ⟨b, o + k, none⟩ = some (.int .i64 (d : Int)) := ⟨(World.cell?_of_block (hb6.block g HGW.out)).trans HS1.out.1, (World.cell?_of_block (hb6.block g HGW.out)).trans HS1.out.2.1, (World.cell?_of_block (hb6.block b HBL.out)).trans HS1.out.2.2⟩
          have HB6 := hide (HBR.out.trans (hb6.mono (by rw [← HBE.out]; exact HBR.out.size)))
          refine hK.out _ _ (fun _ => hS6) (fun hH => ?_)
          clear hHeld
          have hHeld := hH (by decide)
          clear hK K' hH hb hb6
          refine readyT 9 (by kernel_rfl) rfl (by rfl) (fun K' hK => ?_)
          go_simp
          refine hK.out _ _ (fun _ => ⟨(World.cell?_alloc_lt w6 _ _ (World.block_lt_of_cell? _ _ hS6.1)).trans hS6.1, (World.cell?_alloc_lt w6 _ _ (World.block_lt_of_cell? _ _ hS6.2.1)).trans hS6.2.1, (World.cell?_alloc_lt w6 _ _ (World.block_lt_of_cell? _ _ hS6.2.2)).trans hS6.2.2⟩) (fun hH => ?_)
          clear hHeld
          have hHeld := hH (by decide)
          clear hK K' hH
          refine readyT 10 (by kernel_rfl) rfl (by rfl) (fun K' hK => ?_)
          go_simp
          refine hK.out _ _ (fun hx => absurd rfl hx) (fun hH => ?_)
          refine ⟨by kernel_rfl, ?_⟩
          refine NoPanic.normal ?_
          clear hHeld hK K' hH
          go_wp2_with fail
          go_meet
          exact ⟨_, rfl, by rw [← HBE.out]; exact HB6.out.size, heap_alloc_new w6 _, HB6.out.alloc (by rw [← HBE.out]; exact HB6.out.size) _⟩
        · go_simp
          have hSA : ((wr.alloc (.cells #[.string ⟨#[]⟩, .int .i64 0, .int .i64 0, .string ⟨#[]⟩] 140)).drew).cell? ⟨g, 0, none⟩ = some (.string x.name) ∧ ((wr.alloc (.cells #[.string ⟨#[]⟩, .int .i64 0, .int .i64 0, .string ⟨#[]⟩] 140)).drew).cell? ⟨g, 3, none⟩ = some (.slice (some ⟨b, o, none⟩) x.ds.length x.cap) ∧ ((wr.alloc (.cells #[.string ⟨#[]⟩, .int .i64 0, .int .i64 0, .string ⟨#[]⟩] 140)).drew).cell? ⟨b, o + k, none⟩ = some (.int .i64 (d : Int)) := ⟨(World.cell?_of_block (HAW.out.block g HGW.out)).trans HS1.out.1, (World.cell?_of_block (HAW.out.block g HGW.out)).trans HS1.out.2.1, (World.cell?_of_block (HAW.out.block b HBL.out)).trans HS1.out.2.2⟩
          refine hK.out _ _ (fun _ => hSA) (fun hH => ?_)
          clear hHeld
          have hHeld := hH (by decide)
          clear hK K' hH
          refine readyT 8 (by kernel_rfl) rfl (by rfl) (fun K' hK => ?_)
          go_simp
          refine HFT2.out.mono ?_
          rintro e w6 ⟨rfl, hb⟩
          try go_wp2_with fail
          obtain ⟨gx, hgx⟩ : ∃ gx, wr.heap.size = gx := ⟨_, rfl⟩
          have hgxl : gx < ((wr.alloc (.cells #[.string ⟨#[]⟩, .int .i64 0, .int .i64 0, .string ⟨#[]⟩] 140)).drew).heap.size := by show gx < (wr.alloc _).heap.size; rw [← hgx]; simp
          have hk6 : w6.heap[gx]? = some (.cells #[.string ⟨#[]⟩, .int .i64 0, .int .i64 0, .string ⟨#[]⟩] 140 (0, 0)) := by rw [hb.block gx hgxl, ← hgx]; exact heap_alloc_new wr _
          have hb6 : Below wr.heap.size wr w6 := HAW.out.trans (hb.mono HAW.out.size)
          have hS6 : w6.cell? ⟨g, 0, none⟩ = some (.string x.name) ∧ w6.cell? ⟨g, 3, none⟩ = some (.slice (some ⟨b, o, none⟩) x.ds.length x.cap) ∧ w6.cell? ⟨b, o + k, none⟩ = some (.int .i64 (d : Int)) := ⟨(World.cell?_of_block (hb6.block g HGW.out)).trans HS1.out.1, (World.cell?_of_block (hb6.block g HGW.out)).trans HS1.out.2.1, (World.cell?_of_block (hb6.block b HBL.out)).trans HS1.out.2.2⟩
          have HB6 := hide (HBR.out.trans (hb6.mono (by rw [← HBE.out]; exact HBR.out.size)))
          refine hK.out _ _ (fun _ => hS6) (fun hH => ?_)
          clear hHeld
          have hHeld := hH (by decide)
          clear hK K' hH
          have hBg : B0 ≤ gx := by rw [← hgx, ← HBE.out]; exact HBR.out.size
          have HK6 := hide hk6
          have q0 : w6.cell? ⟨gx, 0, none⟩ = some (.string ⟨#[]⟩) := by rw [cell_of_row w6 gx 0 _ _ (0, 0) hk6]; rfl
          have q1 : w6.cell? ⟨gx, 1, none⟩ = some (.int .i64 0) := by rw [cell_of_row w6 gx 1 _ _ (0, 0) hk6]; rfl
          have q2 : w6.cell? ⟨gx, 2, none⟩ = some (.int .i64 0) := by rw [cell_of_row w6 gx 2 _ _ (0, 0) hk6]; rfl
          have q3 : w6.cell? ⟨gx, 3, none⟩ = some (.string ⟨#[]⟩) := by rw [cell_of_row w6 gx 3 _ _ (0, 0) hk6]; rfl
          have z0 := frozen_of_row w6 gx 0 _ _ hk6
          have z1 := frozen_of_row w6 gx 1 _ _ hk6
          have z2 := frozen_of_row w6 gx 2 _ _ hk6
          have z3 := frozen_of_row w6 gx 3 _ _ hk6
          clear hb hb6 hk6 hgxl
          refine readyT 10 (by kernel_rfl) rfl (by rfl) (fun K' hK => ?_)
          go_simp
          refine hK.out _ _ (fun hx => absurd rfl hx) (fun hH => ?_)
          refine ⟨by kernel_rfl, ?_⟩
          refine NoPanic.normal ?_
          clear hHeld hK K' hH q0 q1 q2 q3 z0 z1 z2 z3
          go_wp2_with fail
          go_meet
          refine ⟨gx, rfl, hBg, ?_, Below.setCell (p := ⟨gx, 3, none⟩) (Below.setCell (p := ⟨gx, 2, none⟩) (Below.setCell (p := ⟨gx, 1, none⟩) (Below.setCell (p := ⟨gx, 0, none⟩) HB6.out hBg _) hBg _) hBg _) hBg _⟩
          rw [heap_setCell_same _ gx 3 _ _ _ (heap_setCell_same _ gx 2 _ _ _ (heap_setCell_same _ gx 1 _ _ _ (heap_setCell_same _ gx 0 _ _ _ HK6.out)))]
          rfl
      case rest =>
      obtain ⟨gx, rfl, hgx, hkx, hbx⟩ := hcut
      have kc : wc.cell? ⟨gx, 2, none⟩ = some (.int .i64 X.kind) := by rw [cell_of_row wc gx 2 _ _ (0, 0) hkx]; rfl
      have m1 : wc.cell? ⟨g, 1, none⟩ = some (.string x.seen) := HKG.out wc hbx 1
      have m3 : wc.cell? ⟨g, 3, none⟩ = some (.slice (some ⟨b, o, none⟩) x.ds.length x.cap) := by have := HKG.out wc hbx 3; rw [show x.cs[3]? = some (Value.slice x.ad x.ds.length x.cap) from rfl, HXAD.out] at this; exact this
      have md := HFDC.out wc hbx
      have HBX := hide hbx
      clear hkx hbx gc0 gc3 fd HS1 HBR HAW HFT HFT2 hgx
      by_cases hq : X.kind = 1
      · have b1 : (X.kind == 1) = true := beq_iff_eq.2 hq
        have HC : Hid (endD F (ftOf ls K) (k + 1) = max en (min (64 * d + 64) z)) := by show _ = _; rw [HSUC.out, if_pos (decide_eq_true (.inl hq))]
        clear hq
        go_wp2
        go_quiet (fail)
        go_wp2
        go_roundw
        case rel => exact ⟨k + 1, by omega, by go_num, by rw [HC.out]; congr 1; omega, drewN_below HBX.out _⟩
        case measure => simp [intOf]; omega
      by_cases hq2 : X.kind = 2
      · have b1 : (X.kind == 1) = false := beq_eq_false_iff_ne.2 hq
        have b2 : (X.kind == 2) = true := beq_iff_eq.2 hq2
        have HC : Hid (endD F (ftOf ls K) (k + 1) = max en (min (64 * d + 64) z)) := by show _ = _; rw [HSUC.out, if_pos (decide_eq_true (.inr hq2))]
        clear hq hq2
        go_wp2
        go_quiet (fail)
        go_wp2
        go_roundw
        case rel => exact ⟨k + 1, by omega, by go_num, by rw [HC.out]; congr 1; omega, drewN_below HBX.out _⟩
        case measure => simp [intOf]; omega
      · have b1 : (X.kind == 1) = false := beq_eq_false_iff_ne.2 hq
        have b2 : (X.kind == 2) = false := beq_eq_false_iff_ne.2 hq2
        have HC : Hid (endD F (ftOf ls K) (k + 1) = en) := by show _ = _; rw [HSUC.out, if_neg (by simp [hq, hq2])]
        clear hq hq2
        go_wp2
        go_roundw
        case rel => exact ⟨k + 1, by omega, by go_num, by rw [HC.out], HBX.out⟩
        case measure => simp [intOf]; omega
    · have hkl : k = x.ds.length := by omega
      subst hkl
      have ek : decide ((x.ds.length : Int) < (x.ds.length : Int)) = false := decide_eq_false (by omega)
      have hend : endD F (ftOf ls K) x.ds.length = F.len (ftOf ls K) := by rw [HDL.out]; exact endD_all F _
      rw [hend]
      obtain ⟨en, hen⟩ : ∃ en, F.len (ftOf ls K) = en := ⟨_, rfl⟩
      have henz : en ≤ z := by rw [← hen, ← HZF.out]; exact AF.len_le HF.out _
      rw [hen]
      have HEN := hide hen
      obtain ⟨gb, hgb⟩ : ∃ gb, wr.heap.size = gb := ⟨_, rfl⟩
      have hBb : B0 ≤ gb := by rw [← hgb, ← HBE.out]; exact hbr.size
      have HGB := hide hgb
      have HBR := hide hbr
      clear hbr hend hen
      go_wp2_with (first | (refine wpList_make_zero rfl _ _ rfl en (by rfl) (by rfl) (by omega) ?_; intro w2 hB2 hb2) | go_in)
      try go_frame
      have hB2' : Bytes w2 0 (.slice (some ⟨gb, 0, none⟩) en en) (leftK F (ftOf ls K) en 0) := by
        have e0 : leftK F (ftOf ls K) en 0 = List.replicate en 0 := by unfold leftK; simp
        rw [e0]
        first | exact hB2 | (rw [← hgb]; exact hB2)
      have HB2 := hide hB2'
      have HW2 : Hid (Below B0 w0 w2) := HBR.out.trans (Below.mono hb2 (by rw [← HBE.out]; exact HBR.out.size))
      clear hB2 hB2' hb2 gc3
      go_loopw [9] (fun i wr => ∃ k : Nat, k ≤ en ∧ i = .int .i64 (k : Int) ∧ Bytes wr 0 (.slice (some ⟨gb, 0, none⟩) en en) (leftK F (ftOf ls K) en k) ∧ Below B0 w0 wr) (fun i _ => en - (intOf i).toNat)
      case atStart => exact ⟨0, by omega, rfl, HB2.out, HW2.out⟩
      case round =>
        clear HB2 HW2
        obtain ⟨k, hk, rfl, hB, hbw⟩ := hrel
        have hll := leftK_length F (ftOf ls K) en k hk
        by_cases hlt : k < en
        · have dk : decide ((k : Int) < (en : Int)) = true := decide_eq_true (by omega)
          have hk0 : (0 : Int) ≤ (k : Int) := by omega
          have hk1 : (k : Int) < (en : Int) := by omega
          obtain ⟨sN, hsN⟩ : ∃ q, k / 64 = q := ⟨_, rfl⟩
          have es : (k : Int) / 64 = (sN : Int) := by omega
          have hfate := rFate_any wr ad cap ls (HFA.out wr hbw) hfl x.name (sN : Int)
          obtain ⟨X, hX⟩ : ∃ X, fateR ls K (sN : Int) = X := ⟨_, rfl⟩
          rw [HKN.out, hX] at hfate
          unfold FT.cs at hfate
          have HAF := hide (after_fateR HF.out ls K k (by rw [HZF.out]; omega))
          rw [hsN, hX] at HAF
          obtain ⟨c, hce⟩ : ∃ c, F.after (ftOf ls K) k = c := ⟨_, rfl⟩
          have gc0 : wr.cell? ⟨g, 0, none⟩ = some (.string x.name) := HKG.out wr hbw 0
          have HBR := hide hbw
          have HBY := hide hB
          clear hB hbw hX
          go_wp2_with fail
          refine hfate.mono ?_
          rintro e w6 ⟨rfl, hb⟩
          clear hfate gc0
          obtain ⟨gx, hgx⟩ : ∃ gx, w6.heap.size = gx := ⟨_, rfl⟩
          obtain ⟨w7, hw7⟩ : ∃ w7, w6.alloc (.cells #[.string X.file, .int .i64 X.sector, .int .i64 X.kind, .string X.bytes] 140) = w7 := ⟨_, rfl⟩
          have hb7 : Below wr.heap.size wr w7 := by rw [← hw7]; exact hb.alloc hb.size _
          have hkx : w7.heap[gx]? = some (.cells #[.string X.file, .int .i64 X.sector, .int .i64 X.kind, .string X.bytes] 140 (0, 0)) := by rw [← hw7, ← hgx]; exact heap_alloc_new w6 _
          have kc2 : w7.cell? ⟨gx, 2, none⟩ = some (.int .i64 X.kind) := by rw [cell_of_row w7 gx 2 _ _ (0, 0) hkx]; rfl
          have kc3 : w7.cell? ⟨gx, 3, none⟩ = some (.string X.bytes) := by rw [cell_of_row w7 gx 3 _ _ (0, 0) hkx]; rfl
          have hB7w := HBR.out.trans (hb7.mono (by rw [← HBE.out]; exact HBR.out.size))
          have m1 : w7.cell? ⟨g, 1, none⟩ = some (.string x.seen) := HKG.out w7 hB7w 1
          have m2 : w7.cell? ⟨g, 2, none⟩ = some (.string x.safe) := HKG.out w7 hB7w 2
          have m3 : w7.cell? ⟨g, 3, none⟩ = some (.slice x.ad x.ds.length x.cap) := HKG.out w7 hB7w 3
          have hB7 : Bytes w7 0 (.slice (some ⟨gb, 0, none⟩) en en) (leftK F (ftOf ls K) en k) := by
            have h1 := HBY.out
            unfold Bytes at h1 ⊢
            exact row_same h1 (fun b hb => hb7.block b (World.ownsRow.lt h1 b hb).2)
          have h1 := hB7
          unfold Bytes at h1
          rw [hll] at h1
          have fb : ∃ v, w7.cell? ⟨gb, k, none⟩ = some v := by
            rw [World.ownsRow.cellAt h1 k (by omega)]
            exact ⟨_, List.getElem?_eq_getElem (by rw [List.length_map, hll]; omega)⟩
          obtain ⟨vb, fb⟩ := fb
          have fz := World.ownsRow.frozenAt h1 k
          have hst := hB7.stored hll k c
          rw [← hce, leftK_set F (ftOf ls K) en k hlt, hce] at hst
          have hin := rIn_any w7 x.ad x.cap x.ds (HRW.out w7 hB7w) (Nat.le_trans hdm (by unfold maxLen; omega)) (sN : Int)
          rw [HDC.out] at hin
          have HB7 := hide hB7w
          clear hb hb7 hkx hB7w h1 hll HBY
          cases hdd : F.dirty sN with
          | false =>
            rw [hdd] at hin
            have hc : byteAt x.seen.data.toList k = c := by rw [HXE.out, ← hce, HAF.out, if_pos (.inl hdd)]
            have hix : ∀ w' : World, (Instr.index 9 (.string x.seen) (.int .i64 (k : Int))).run Tryz.prog w' = .ok (.int .u8 (c.toNat : Int)) w' := fun w' => run_index_str w' x.seen .i64 k _ (by rw [str_get x.seen k (by omega), hc])
            clear hc hce
            clear hdd hB7
            have HS := hide hst
            have HW := hide (Below.setCell (p := ⟨gb, k, none⟩) HB7.out hBb (.int .u8 (c.toNat : Int)))
            clear hst
            go_wp2_with fail
            refine hin.mono ?_
            rintro e w8 ⟨rfl, rfl⟩
            clear hin
            go_wp2
            go_roundw
            case rel => exact ⟨k + 1, by omega, by go_num, HS.out, HW.out⟩
            case measure => simp [intOf]; omega
          | true =>
            rw [hdd] at hin
            by_cases hq : X.kind = 1
            · have b1 : (X.kind == 1) = true := beq_iff_eq.2 hq
              have hc : byteAt x.seen.data.toList k = c := by rw [HXE.out, ← hce, HAF.out, if_pos (.inr hq)]
              have hix : ∀ w' : World, (Instr.index 9 (.string x.seen) (.int .i64 (k : Int))).run Tryz.prog w' = .ok (.int .u8 (c.toNat : Int)) w' := fun w' => run_index_str w' x.seen .i64 k _ (by rw [str_get x.seen k (by omega), hc])
              clear hc hce
              clear hdd hq hB7
              have HS := hide hst
              have HW := hide (Below.setCell (p := ⟨gb, k, none⟩) HB7.out hBb (.int .u8 (c.toNat : Int)))
              clear hst
              go_wp2_with fail
              refine hin.mono ?_
              rintro e w8 ⟨rfl, rfl⟩
              clear hin
              go_wp2
              go_roundw
              case rel => exact ⟨k + 1, by omega, by go_num, HS.out, HW.out⟩
              case measure => simp [intOf]; omega
            have b1 : (X.kind == 1) = false := beq_eq_false_iff_ne.2 hq
            have hno : ¬ (F.dirty sN = false ∨ X.kind = 1) := fun hh => hh.elim (fun q => by rw [hdd] at q; cases q) hq
            by_cases hq2 : X.kind = 2
            · have b2 : (X.kind == 2) = true := beq_iff_eq.2 hq2
              obtain ⟨m, hm⟩ : ∃ m, k % 64 = m := ⟨_, rfl⟩
              have em : (k : Int) % 64 = (m : Int) := by omega
              have hcm : byteAt X.bytes.data.toList m = c := by rw [← hce, HAF.out, if_neg hno, if_pos hq2, hm]
              obtain ⟨bl, hbl⟩ : ∃ bl, X.bytes.size = bl := ⟨_, rfl⟩
              by_cases hmb : m < bl
              · have dm : decide ((m : Int) < (bl : Int)) = true := decide_eq_true (by omega)
                have hc := hcm
                have hix : ∀ w' : World, (Instr.index 9 (.string X.bytes) (.int .i64 (m : Int))).run Tryz.prog w' = .ok (.int .u8 (c.toNat : Int)) w' := fun w' => run_index_str w' X.bytes .i64 m _ (by rw [str_get X.bytes m (by omega), hc])
                clear hc hcm hce hdd hq hq2 hno hB7 hm
                have HS := hide hst
                have HW := hide (Below.setCell (p := ⟨gb, k, none⟩) HB7.out hBb (.int .u8 (c.toNat : Int)))
                clear hst
                go_wp2_with fail
                refine hin.mono ?_
                rintro e w8 ⟨rfl, rfl⟩
                clear hin
                go_wp2
                go_roundw
                case rel => exact ⟨k + 1, by omega, by go_num, HS.out, HW.out⟩
                case measure => simp [intOf]; omega
              · have dm : decide ((m : Int) < (bl : Int)) = false := decide_eq_false (by omega)
                have hc0 : F.after (ftOf ls K) k = 0 := by rw [hce, ← hcm]; exact byteAt_end (by omega)
                clear hcm hce hdd hq hq2 hno hm
                have HS : Hid (Bytes w7 0 (.slice (some ⟨gb, 0, none⟩) en en) (leftK F (ftOf ls K) en (k + 1))) := by rw [leftK_zero F _ en k hlt hc0]; exact hB7
                clear hst hB7 hc0
                go_wp2_with fail
                refine hin.mono ?_
                rintro e w8 ⟨rfl, rfl⟩
                clear hin
                go_wp2
                go_roundw
                case rel => exact ⟨k + 1, by omega, by go_num, HS.out, HB7.out⟩
                case measure => simp [intOf]; omega
            · have b2 : (X.kind == 2) = false := beq_eq_false_iff_ne.2 hq2
              have hcs : byteAt x.safe.data.toList k = c := by rw [HXA.out, ← hce, HAF.out, if_neg hno, if_neg hq2]
              by_cases hks : k < zs
              · have dm : decide ((k : Int) < (zs : Int)) = true := decide_eq_true (by omega)
                have hc := hcs
                have hix : ∀ w' : World, (Instr.index 9 (.string x.safe) (.int .i64 (k : Int))).run Tryz.prog w' = .ok (.int .u8 (c.toNat : Int)) w' := fun w' => run_index_str w' x.safe .i64 k _ (by rw [str_get x.safe k (by omega), hc])
                clear hc hcs hce hdd hq hq2 hno hB7
                have HS := hide hst
                have HW := hide (Below.setCell (p := ⟨gb, k, none⟩) HB7.out hBb (.int .u8 (c.toNat : Int)))
                clear hst
                go_wp2_with fail
                refine hin.mono ?_
                rintro e w8 ⟨rfl, rfl⟩
                clear hin
                go_wp2
                go_roundw
                case rel => exact ⟨k + 1, by omega, by go_num, HS.out, HW.out⟩
                case measure => simp [intOf]; omega
              · have dm : decide ((k : Int) < (zs : Int)) = false := decide_eq_false (by omega)
                have hc0 : F.after (ftOf ls K) k = 0 := by rw [hce, ← hcs]; exact byteAt_end (by omega)
                clear hcs hce hdd hq hq2 hno
                have HS : Hid (Bytes w7 0 (.slice (some ⟨gb, 0, none⟩) en en) (leftK F (ftOf ls K) en (k + 1))) := by rw [leftK_zero F _ en k hlt hc0]; exact hB7
                clear hst hB7 hc0
                go_wp2_with fail
                refine hin.mono ?_
                rintro e w8 ⟨rfl, rfl⟩
                clear hin
                go_wp2
                go_roundw
                case rel => exact ⟨k + 1, by omega, by go_num, HS.out, HB7.out⟩
                case measure => simp [intOf]; omega
        · have hkl : k = en := by omega
          subst hkl
          have dk : decide ((k : Int) < (k : Int)) = false := decide_eq_false (by omega)
          obtain ⟨Y, hY⟩ : ∃ Y : ByteArray, Y = ⟨(leftK F (ftOf ls K) k k).toArray⟩ := ⟨_, rfl⟩
          have hcv : (convert 42 9 (.slice (some ⟨gb, 0, none⟩) k k)).run Tryz.prog wr = .ok (.string Y) wr := by
            have := run_conv_piece wr hB (Piece.whole hB) (by omega)
            rw [hll] at this
            rw [this, hY]
            simp only [List.drop_zero]
            rw [List.take_of_length_le (by omega)]
          have HYL : Hid (Y.data.toList = F.left (ftOf ls K)) := by
            show _ = _
            rw [hY, ← leftK_all F (ftOf ls K), HEN.out]
          have gc0 : wr.cell? ⟨g, 0, none⟩ = some (.string x.name) := HKG.out wr hbw 0
          have hkr := HKR.out wr hbw
          have HKR2 := hide hkr
          have q0 : wr.cell? ⟨g + 1, 0, none⟩ = some (.string ⟨#[]⟩) := by rw [cell_of_row wr (g + 1) 0 _ _ (0, 0) hkr]; rfl
          have q1 : wr.cell? ⟨g + 1, 1, none⟩ = some (.string ⟨#[]⟩) := by rw [cell_of_row wr (g + 1) 1 _ _ (0, 0) hkr]; rfl
          have q2 : wr.cell? ⟨g + 1, 2, none⟩ = some (.string ⟨#[]⟩) := by rw [cell_of_row wr (g + 1) 2 _ _ (0, 0) hkr]; rfl
          have q3 : wr.cell? ⟨g + 1, 3, none⟩ = some (.slice none 0 0) := by rw [cell_of_row wr (g + 1) 3 _ _ (0, 0) hkr]; rfl
          have z0 := frozen_of_row wr (g + 1) 0 _ _ hkr
          have z1 := frozen_of_row wr (g + 1) 1 _ _ hkr
          have z2 := frozen_of_row wr (g + 1) 2 _ _ hkr
          have z3 := frozen_of_row wr (g + 1) 3 _ _ hkr
          have HBW2 := hide (HBW.out wr hbw)
          clear hB hll hbw hkr hY
          go_wp2
          refine bodyPost_ret (results_cell_row rfl _ _ (g + 1) 147 #[.string x.name, .string Y, .string Y, .slice none 0 0] (0, 0) _ rfl ?_ Tryz.underlying147 rfl (by kernel_rfl)) rfl ⟨Y, rfl, HYL.out, Below.setCell (p := ⟨g + 1, 3, none⟩) (Below.setCell (p := ⟨g + 1, 2, none⟩) (Below.setCell (p := ⟨g + 1, 1, none⟩) (Below.setCell (p := ⟨g + 1, 0, none⟩) HBW2.out (by rw [hg]; exact Nat.le_succ g) _) (by rw [hg]; exact Nat.le_succ g) _) (by rw [hg]; exact Nat.le_succ g) _) (by rw [hg]; exact Nat.le_succ g) _⟩
          rw [heap_setCell_same _ (g + 1) 3 _ _ _ (heap_setCell_same _ (g + 1) 2 _ _ _ (heap_setCell_same _ (g + 1) 1 _ _ _ (heap_setCell_same _ (g + 1) 0 _ _ _ HKR2.out)))]
          rfl
end Go.Proofs.YtlkimfmilccanaaGreat
