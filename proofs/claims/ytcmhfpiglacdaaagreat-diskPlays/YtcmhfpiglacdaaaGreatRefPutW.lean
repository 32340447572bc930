/-
  The document's disk: put.
-/
import Derived.Test.YtcmhfpiglacdaaaGreatRefPut
namespace Go.Proofs.YtcmhfpiglacdaaaGreat
open Go.RowKit Go.Maps Go.WideMaps
set_option linter.unusedVariables false
set_option linter.unusedSimpArgs false
theorem less_before : ∀ x y : List UInt8, Op.bytesLess x y = bytesBefore x y
  | [], [] => rfl
  | _ :: _, [] => rfl
  | [], _ :: _ => rfl
  | a :: x, b :: y => by
    show (decide (a < b) || (a == b && Op.bytesLess x y)) = (decide (a < b) || (a == b && bytesBefore x y))
    rw [less_before x y]
set_option maxRecDepth 5000 in
set_option maxHeartbeats 4000000 in
theorem put_any (w : World) (ad : Option Addr) (cap : Nat) (xs : List RF) (h : Files w ad xs) (hn : xs.length ≤ 100) (f : RF) :
    Calls Tryz.prog 60 #[.slice ad xs.length cap, .agg f.cs] w fun e w' => ∃ v, e = .returned v ∧ w'.ownsRow w.heap.size 87 4 v (putR xs f).length (cellsF (putR xs f)) ∧ Below w.heap.size w w' := by
  obtain ⟨w0, hw0⟩ : ∃ w0, w.alloc (.cells f.cs 87) = w0 := ⟨_, rfl⟩
  have hb0 : Below w.heap.size w w0 := by rw [← hw0]; exact (Below.refl _ _).alloc (Nat.le_refl _) _
  obtain ⟨g, hg⟩ : ∃ g, w.heap.size = g := ⟨_, rfl⟩
  have hgs : w0.heap.size = g + 1 := by rw [← hw0, ← hg]; simp
  have hblk : w0.heap[g]? = some (.cells f.cs 87 (0, 0)) := by rw [← hw0, ← hg]; exact heap_alloc_new w _
  obtain ⟨B, hB⟩ : ∃ B, w0.heap.size = B := ⟨_, rfl⟩
  have HF : Hid (∀ w', Below B w0 w' → Files w' ad xs) := fun w' hb => (h.below hb0).below (by rw [hB]; exact hb)
  have HG : Hid (∀ w', Below B w0 w' → ∀ j, w'.cell? ⟨g, j, none⟩ = f.cs[j]?) := fun w' hb j => by
    have e := hb.block g (by omega)
    rw [cell_of_row w' g j _ _ (0, 0) (by rw [e]; exact hblk)]
  have HBE : Hid (B = w0.heap.size) := hB.symm
  have HEND : Hid (∀ w' v, Below B w0 w' → w'.ownsRow B 87 4 v (putR xs f).length (cellsF (putR xs f)) → w'.ownsRow g 87 4 v (putR xs f).length (cellsF (putR xs f)) ∧ Below g w w') := fun w' v hb ho => by
    refine ⟨⟨ho.1, ?_⟩, by rw [← hg]; exact hb0.trans (hb.mono (by omega))⟩
    rcases ho.2 with h | ⟨g2, c2, cur, h1, h2, rest⟩
    · exact .inl h
    · exact .inr ⟨g2, c2, cur, h1, by omega, rest⟩
  rw [hg]
  unfold RF.cs at hw0 ⊢
  clear h hb0 hblk hgs hB
  go_enter Tryz.func60, Tryz.ntmps60
  go_wp2
  go_loopw [5, 6, 7] (fun v d i wr => ∃ (k : Nat) (db : Bool) (ys : List RF) (vo : Value), vo = v ∧ k ≤ xs.length ∧ i = .int .i64 (k : Int) ∧ d = .bool db ∧ PInv xs f k db ys ∧ wr.ownsRow B 87 4 v ys.length (cellsF ys) ∧ Below B w0 wr) (fun _ _ i _ => xs.length - (intOf i).toNat)
  case atStart => exact ⟨0, false, [], _, rfl, by omega, rfl, rfl, .inl ⟨rfl, rfl, by simp⟩, World.ownsRow_nil _ _ _ _, Below.refl _ _⟩
  case round =>
    obtain ⟨k, db, ys, vo, rfl, hk, rfl, rfl, hpi, hown, hbr⟩ := hrel
    have hfew := hpi.few
    have gf0 : wr.cell? ⟨g, 0, none⟩ = some (.string f.name) := HG.out wr hbr 0
    have gf1 : wr.cell? ⟨g, 1, none⟩ = some (.string f.seen) := HG.out wr hbr 1
    have gf2 : wr.cell? ⟨g, 2, none⟩ = some (.string f.safe) := HG.out wr hbr 2
    have gf3 : wr.cell? ⟨g, 3, none⟩ = some (.slice f.ad f.ds.length f.cap) := HG.out wr hbr 3
    by_cases hlt : k < xs.length
    · have dk : decide ((k : Int) < (xs.length : Int)) = true := decide_eq_true (by omega)
      have hk0 : (0 : Int) ≤ (k : Int) := by omega
      have hk1 : (k : Int) < (xs.length : Int) := by omega
      obtain ⟨b, o, rfl, hbl, hcs0⟩ := (HF.out w0 (Below.refl _ _)).cells hlt
      have HCS : Hid (∀ w', Below B w0 w' → ∀ j, j < 4 → w'.cell? ⟨b, o + k * 4 + j, none⟩ = (xs[k].cs)[j]?) := fun w' hb j hj => by rw [← hcs0 j hj]; exact World.cell?_of_block (hb.block b (by rw [HBE.out]; exact hbl))
      have hcs := HCS.out wr hbr
      have HSK := hide (hpi.skip hlt)
      have HMO : Hid (∀ ys, PInv xs f k true ys → (xs[k].name.data.toList == f.name.data.toList) = false → PInv xs f (k + 1) true (ys ++ [xs[k]])) := fun ys h => h.more hlt
      have HPA : Hid (∀ ys, PInv xs f k false ys → (xs[k].name.data.toList == f.name.data.toList) = false → bytesBefore f.name.data.toList xs[k].name.data.toList = false → PInv xs f (k + 1) false (ys ++ [xs[k]])) := fun ys h => h.past hlt
      have HHE : Hid (∀ ys, PInv xs f k false ys → (xs[k].name.data.toList == f.name.data.toList) = false → bytesBefore f.name.data.toList xs[k].name.data.toList = true → PInv xs f (k + 1) true ((ys ++ [f]) ++ [xs[k]])) := fun ys h => h.here hlt
      obtain ⟨x, hx⟩ : ∃ x, xs[k] = x := ⟨_, rfl⟩
      rw [hx] at hcs HCS HSK HMO HPA HHE
      have f0 : wr.cell? ⟨b, o + k * 4, none⟩ = some (.string x.name) := hcs 0 (by omega)
      have f1 : wr.cell? ⟨b, o + k * 4 + 1, none⟩ = some (.string x.seen) := hcs 1 (by omega)
      have f2 : wr.cell? ⟨b, o + k * 4 + 2, none⟩ = some (.string x.safe) := hcs 2 (by omega)
      have f3 : wr.cell? ⟨b, o + k * 4 + 3, none⟩ = some (.slice x.ad x.ds.length x.cap) := hcs 3 (by omega)
      have HPI := hide hpi
      have HO := hide hown
      have HB := hide hbr
      clear hpi hown hbr hcs hx hbl hcs0
      cases hq : (x.name.data.toList == f.name.data.toList) with
      | true =>
        have hb1 : (x.name.toList == f.name.toList) = true := by rw [toList_beq]; exact hq
        have HN := hide (HSK.out hq)
        clear hq
        go_wp2
        go_quiet (fail)
        go_wp2
        go_roundw
        case rel => exact ⟨k + 1, db, ys, _, rfl, by omega, by go_num, rfl, HN.out, HO.out, drewN_below HB.out _⟩
        case measure => simp [intOf]; omega
      | false =>
        have hb1 : (x.name.toList == f.name.toList) = false := by rw [toList_beq]; exact hq
        have HQ := hide hq
        clear hq HSK
        cases db with
        | true =>
          have HN := hide (HMO.out ys HPI.out HQ.out)
          clear HPA HHE HMO
          go_wp2
          go_quiet (fail)
          go_wp2
          go_quiet (fail)
          clear f0 f1 f2 f3 gf0 gf1 gf2 gf3
          generalize hwd : World.drewN _ _ = wd
          have hbd : Below B w0 wd := by rw [← hwd]; exact drewN_below (drewN_below HB.out _) _
          have hod : wd.ownsRow B 87 4 vo ys.length (cellsF ys) := by rw [← hwd]; exact HO.out
          clear hwd HB HO
          obtain ⟨g2, hg2⟩ : ∃ g, wd.heap.size = g := ⟨_, rfl⟩
          obtain ⟨wa2, hwa2⟩ : ∃ w1, wd.alloc (.cells x.cs 87) = w1 := ⟨_, rfl⟩
          obtain ⟨v2, w2, hap2, hr2, hb2⟩ := app_file hod (by rw [HBE.out]; exact hbd.size) (by omega) x 43 hwa2 hg2
          unfold RF.cs at hwa2
          have e0wd : wd.cell? ⟨b, o + k * 4, none⟩ = some (.string x.name) := HCS.out wd hbd 0 (by omega)
          have e1wd : wd.cell? ⟨b, o + k * 4 + 1, none⟩ = some (.string x.seen) := HCS.out wd hbd 1 (by omega)
          have e2wd : wd.cell? ⟨b, o + k * 4 + 2, none⟩ = some (.string x.safe) := HCS.out wd hbd 2 (by omega)
          have e3wd : wd.cell? ⟨b, o + k * 4 + 3, none⟩ = some (.slice x.ad x.ds.length x.cap) := HCS.out wd hbd 3 (by omega)
          have HO2 := hide hr2
          have HB2 := hide (hbd.trans hb2)
          clear hr2 hb2 hod hbd
          go_wp2_with (at_builtin; refine wpList_app rfl _ _ _ rfl hap2 ?_; try go_frame)
          go_roundw
          case rel => exact ⟨k + 1, true, ys ++ [x], _, rfl, by omega, by go_num, rfl, HN.out, HO2.out, HB2.out⟩
          case measure => simp [intOf]; omega
        | false =>
          cases hbb : bytesBefore f.name.data.toList x.name.data.toList with
          | false =>
            have hlss : Op.bytesLess f.name.toList x.name.toList = false := by rw [less_before, ByteArray.toList_eq, ByteArray.toList_eq]; exact hbb
            have HN := hide (HPA.out ys HPI.out HQ.out hbb)
            clear HPA HHE HMO hbb
            go_wp2
            go_quiet (fail)
            go_wp2
            go_quiet (fail)
            clear f0 f1 f2 f3 gf0 gf1 gf2 gf3
            generalize hwd : World.drewN _ _ = wd
            have hbd : Below B w0 wd := by rw [← hwd]; exact drewN_below (drewN_below HB.out _) _
            have hod : wd.ownsRow B 87 4 vo ys.length (cellsF ys) := by rw [← hwd]; exact HO.out
            clear hwd HB HO
            obtain ⟨g2, hg2⟩ : ∃ g, wd.heap.size = g := ⟨_, rfl⟩
            obtain ⟨wa2, hwa2⟩ : ∃ w1, wd.alloc (.cells x.cs 87) = w1 := ⟨_, rfl⟩
            obtain ⟨v2, w2, hap2, hr2, hb2⟩ := app_file hod (by rw [HBE.out]; exact hbd.size) (by omega) x 43 hwa2 hg2
            unfold RF.cs at hwa2
            have e0wd : wd.cell? ⟨b, o + k * 4, none⟩ = some (.string x.name) := HCS.out wd hbd 0 (by omega)
            have e1wd : wd.cell? ⟨b, o + k * 4 + 1, none⟩ = some (.string x.seen) := HCS.out wd hbd 1 (by omega)
            have e2wd : wd.cell? ⟨b, o + k * 4 + 2, none⟩ = some (.string x.safe) := HCS.out wd hbd 2 (by omega)
            have e3wd : wd.cell? ⟨b, o + k * 4 + 3, none⟩ = some (.slice x.ad x.ds.length x.cap) := HCS.out wd hbd 3 (by omega)
            have HO2 := hide hr2
            have HB2 := hide (hbd.trans hb2)
            clear hr2 hb2 hod hbd
            go_wp2_with (at_builtin; refine wpList_app rfl _ _ _ rfl hap2 ?_; try go_frame)
            go_roundw
            case rel => exact ⟨k + 1, false, ys ++ [x], _, rfl, by omega, by go_num, rfl, HN.out, HO2.out, HB2.out⟩
            case measure => simp [intOf]; omega
          | true =>
            have hlss : Op.bytesLess f.name.toList x.name.toList = true := by rw [less_before, ByteArray.toList_eq, ByteArray.toList_eq]; exact hbb
            have HN := hide (HHE.out ys HPI.out HQ.out hbb)
            clear HPA HHE HMO hbb
            go_wp2
            go_quiet (fail)
            go_wp2
            go_quiet (fail)
            clear f0 f1 f2 f3 gf0 gf1 gf2 gf3
            generalize hwd : World.drewN _ _ = wd
            have hbd : Below B w0 wd := by rw [← hwd]; exact drewN_below (drewN_below HB.out _) _
            have hod : wd.ownsRow B 87 4 vo ys.length (cellsF ys) := by rw [← hwd]; exact HO.out
            clear hwd HB HO
            obtain ⟨g2, hg2⟩ : ∃ g, wd.heap.size = g := ⟨_, rfl⟩
            obtain ⟨wa2, hwa2⟩ : ∃ w1, wd.alloc (.cells f.cs 87) = w1 := ⟨_, rfl⟩
            obtain ⟨v2, w2, hap2, hr2, hb2⟩ := app_file hod (by rw [HBE.out]; exact hbd.size) (by omega) f 43 hwa2 hg2
            unfold RF.cs at hwa2
            have g0wd : wd.cell? ⟨g, 0, none⟩ = some (.string f.name) := HG.out wd hbd 0
            have g1wd : wd.cell? ⟨g, 1, none⟩ = some (.string f.seen) := HG.out wd hbd 1
            have g2wd : wd.cell? ⟨g, 2, none⟩ = some (.string f.safe) := HG.out wd hbd 2
            have g3wd : wd.cell? ⟨g, 3, none⟩ = some (.slice f.ad f.ds.length f.cap) := HG.out wd hbd 3
            have hB2 := hbd.trans hb2
            obtain ⟨g3, hg3⟩ : ∃ g, w2.heap.size = g := ⟨_, rfl⟩
            obtain ⟨wa3, hwa3⟩ : ∃ w1, w2.alloc (.cells x.cs 87) = w1 := ⟨_, rfl⟩
            obtain ⟨v3, w3, hap3, hr3, hb3⟩ := app_file hr2 (by rw [HBE.out]; exact hB2.size) (by rw [List.length_append]; show ys.length + 1 ≤ 1000; omega) x 43 hwa3 hg3
            unfold RF.cs at hwa3
            have e0w2 : w2.cell? ⟨b, o + k * 4, none⟩ = some (.string x.name) := HCS.out w2 hB2 0 (by omega)
            have e1w2 : w2.cell? ⟨b, o + k * 4 + 1, none⟩ = some (.string x.seen) := HCS.out w2 hB2 1 (by omega)
            have e2w2 : w2.cell? ⟨b, o + k * 4 + 2, none⟩ = some (.string x.safe) := HCS.out w2 hB2 2 (by omega)
            have e3w2 : w2.cell? ⟨b, o + k * 4 + 3, none⟩ = some (.slice x.ad x.ds.length x.cap) := HCS.out w2 hB2 3 (by omega)
            have HO3 := hide hr3
            have HB3 := hide (hB2.trans hb3)
            clear hr2 hb2 hod hbd hr3 hb3 hB2
            go_wp2_with (first | (at_builtin; refine wpList_app rfl _ _ _ rfl hap2 ?_; try go_frame) | (at_builtin; refine wpList_app rfl _ _ _ rfl hap3 ?_; try go_frame))
            go_roundw
            case rel => exact ⟨k + 1, true, (ys ++ [f]) ++ [x], _, rfl, by omega, by go_num, rfl, HN.out, HO3.out, HB3.out⟩
            case measure => simp [intOf]; omega
    · have hkl : k = xs.length := by omega
      subst hkl
      have dk : decide ((xs.length : Int) < (xs.length : Int)) = false := decide_eq_false (by omega)
      cases db with
      | true =>
        have HE := hide hpi.end1
        have HO := hide hown
        have HB := hide hbr
        clear hpi hown hbr
        go_wp2
        go_ret
        exact ⟨_, rfl, HEND.out _ _ HB.out (by rw [← HE.out]; exact HO.out)⟩
      | false =>
        have HE := hide hpi.end0
        obtain ⟨g2, hg2⟩ : ∃ g, wr.heap.size = g := ⟨_, rfl⟩
        obtain ⟨wa2, hwa2⟩ : ∃ w1, wr.alloc (.cells f.cs 87) = w1 := ⟨_, rfl⟩
        obtain ⟨v2, w2, hap2, hr2, hb2⟩ := app_file hown (by rw [HBE.out]; exact hbr.size) (by omega) f 43 hwa2 hg2
        unfold RF.cs at hwa2
        have HO := hide hr2
        have HB := hide (hbr.trans hb2)
        clear hpi hown hbr hr2 hb2
        go_wp2_with (at_builtin; refine wpList_app rfl _ _ _ rfl hap2 ?_; try go_frame)
        go_ret
        exact ⟨_, rfl, HEND.out _ _ HB.out (by rw [← HE.out]; exact HO.out)⟩
end Go.Proofs.YtcmhfpiglacdaaaGreat
