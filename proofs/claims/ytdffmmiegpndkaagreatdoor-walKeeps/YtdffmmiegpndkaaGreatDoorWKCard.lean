import Derived.Test.YtdffmmiegpndkaaGreatDoorWKG
import Derived.Test.YtdffmmiegpndkaaGreatDoorWKArgs
import Derived.Test.YtdffmmiegpndkaaGreatDoorRows
import Derived.Test.YtdffmmiegpndkaaGreatDoorWFile
import Derived.ProofKit
import Derived.OpenShut
import Derived.LaidLaws
import Derived.Lib.LaidTab
/-
  WalKeeps' walk.
-/
namespace Go.Proofs.YtdffmmiegpndkaaGreatDoor
open Go.RowKit Go.Maps
set_option linter.unusedVariables false
set_option linter.unusedSimpArgs false
theorem and4095 (X : Int) : ∃ k : Nat, bits .and .i64 X 4095 = (k : Int) ∧ k < 4096 := by
  have e : bits .and .i64 X 4095 = IntKind.i64.wrap ((BitVec.ofInt 64 X &&& BitVec.ofInt 64 4095).toNat : Int) := rfl
  have h : (BitVec.ofInt 64 X &&& BitVec.ofInt 64 4095).toNat < 4096 := by
    rw [BitVec.toNat_and]
    exact Nat.lt_of_le_of_lt Nat.and_le_right (by decide)
  refine ⟨_, ?_, h⟩
  rw [e, IntKind.wrap_i64]
  omega
theorem open_fresh (sz : Int) (h1 : 64 ≤ sz) (h2 : sz ≤ 1048576) : openA (AD.fresh 4000000) nmLog sz 0 = ⟨some ⟨nmLog, sz, [], 0, false⟩, [], 0, AD.fresh 4000000⟩ := by
  rw [open_go (A := AD.fresh 4000000) rfl h1 h2 (by decide) (by decide)]
  have hok : AD.Ok ⟨4000000, [], ⟨false, false, 0, 0, 0⟩⟩ := ⟨by decide, by decide, List.Pairwise.nil, by simp, by simp, by simp, by simp [fused], ⟨by decide, by decide, by decide, by decide, by decide, by decide⟩⟩
  have hd : Dk [] nmLog.data.toList 0 [] := ⟨by decide, by decide, fun x _ _ hx => by simp [fget] at hx, fun i t hi => by simp at hi, fun p hp => by simp at hp⟩
  have := load_none hok hd sz 0
  simp only
  rw [show AD.fresh 4000000 = ⟨4000000, [], ⟨false, false, 0, 0, 0⟩⟩ from rfl, this]
  simp
theorem ks_fresh (sz : Int) (hok : (AD.fresh 4000000).Ok) : KS (AD.fresh 4000000) ⟨nmLog, sz, [], 0, false⟩ sz 0 [] [] false := by
  have hd : Dk [] nmLog.data.toList 0 [] := ⟨by decide, by decide, fun x _ _ hx => by simp [fget] at hx, fun i t hi => by simp at hi, fun p hp => by simp at hp⟩
  exact KS.mk' (n0 := 0) (b := 0) (pss := []) ⟨hd, ⟨by decide, by decide, fun p hp => by simp at hp⟩, fun q hq => by simp at hq, rfl, rfl, rfl, rfl, .nil, Int.le_refl _, Int.le_refl _, rfl⟩ hok rfl rfl _
/-- What holds ahead of each step. -/
def KM (B : Nat) (w : World) (k p : Nat) (sz : Int) (i : Nat) (wr : World) : Prop := ∃ l A g acked first v u way, Lies B wr (KL k p l A g acked sz first v u way false) ∧ KS A g sz first acked u.data.toList way ∧ g.next ≤ 2000 * (i : Int) ∧ Below B w wr
theorem toKL {B : Nat} {w : World} {p l k : Nat} {A : AD} {g : AL} {sz : Int} {c d : Item} (h : Lies B w [.disk p A, .block k (.cells (kcs p l sz 0 (.slice none 0 0) ⟨#[]⟩ false false) 32 (0, 0)), .log l p g, d]) : Lies B w (KL k p l A g [] sz 0 (.slice none 0 0) ⟨#[]⟩ false false) := by
  have h1 := h.nilRow
  refine h1.choose (fun q => if q = 1 then 2 else if q = 2 then 4 else if q = 3 then 1 else q) (fun x y hx hy e => ?_) (fun q x hq => ?_)
  · have hx' : x < 4 := hx
    have hy' : y < 4 := hy
    (repeat' split at e) <;> omega
  · have hlt : q < 4 := (List.getElem?_eq_some_iff.1 hq).1
    match q, hlt with
    | 0, _ => exact hq
    | 1, _ => exact hq
    | 2, _ => exact hq
    | 3, _ => exact hq
theorem kb1 {g : Int} {i n : Nat} (h1 : g ≤ 2000 * (i : Int)) (h2 : i ≤ n) (h3 : n * 88 ≤ 140737488355328) : g ≤ 1152921504606840000 ∧ g + 4000 ≤ 1152921504606846976 := by omega
theorem kb2 {g g5 : Int} {i : Nat} (h : g ≤ 2000 * (i : Int)) (h5 : g5 ≤ g + 1100) : g5 ≤ 2000 * ((i + 1 : Nat) : Int) := by omega
theorem kb3 {i n : Nat} (h : i < n) (h3 : n * 88 ≤ 140737488355328) : wrap64 ((i : Int) + 1) = (i : Int) + 1 := by unfold wrap64; omega
theorem kb4 {sz : Int} (h : 64 ≤ sz ∧ sz ≤ 1048576) : -9223372036854775808 ≤ sz ∧ sz ≤ 9223372036854775807 := by omega
theorem kb6 {g g5 : Int} (h : g5 ≤ g + 1) : g5 ≤ g + 1100 := by omega
theorem kb8 {i n : Nat} (h : i < n) (e : wrap64 ((i : Int) + 1) = (i : Int) + 1) : n - (intOf (.int .i64 (wrap64 ((i : Int) + 1)))).toNat < n - (intOf (.int .i64 (i : Int))).toNat := by
  rw [e]
  simp only [intOf]
  omega
theorem kb7 {g g5 : Int} (h : g5 ≤ g) : g5 ≤ g + 1100 := by omega
set_option maxRecDepth 100000 in
set_option maxHeartbeats 16000000 in
theorem keeps_walk {B : Nat} (w : World) (he0 : Env B w) (hB : B ≤ w.heap.size) (sg : Int) (hsg : -9223372036854775808 ≤ sg ∧ sg < 9223372036854775808) (ad : Option Addr) (cap : Nat) (os : List WOp) (h : WScript w.heap.size w ad os) (hz : ∀ o ∈ os, o.Sz) (hlen : os.length * 88 ≤ 140737488355328) :
    Calls Tryz.prog 3 #[.int .i64 sg, .slice ad os.length cap] w fun e w' => e = .returned (.bool true) ∧ Below w.heap.size w w' := by
  have he : Env w.heap.size w := ⟨he0.tab, he0.syn, he0.rng, Nat.le_trans he0.low hB⟩
  obtain ⟨b, hb⟩ : ∃ b, w.heap.size = b := ⟨_, rfl⟩
  rw [hb] at he h ⊢
  have hl0 : Lies b w [] := Lies.nil (Nat.le_of_eq hb.symm)
  have HENV := hide he
  have HNEW := hide (n_new hl0 4000000 (by decide) (by decide))
  have HSC := hide h
  have HZ := hide hz
  have HLEN := hide hlen
  obtain ⟨q, hq, hq2⟩ := and4095 sg
  have hszi : IntKind.i64.wrap (64 + (q : Int)) = 64 + (q : Int) := by rw [IntKind.wrap_i64]; omega
  have hszw : wrap64 (64 + (q : Int)) = 64 + (q : Int) := by unfold wrap64; omega
  have HQ := hide hq2
  clear hl0 he he0 h hz hlen hsg hq2 hB
  obtain ⟨sz, hsz⟩ : ∃ y, 64 + (q : Int) = y := ⟨_, rfl⟩
  rw [hsz] at hszi hszw
  have HWS := hide (And.intro hszi hszw)
  clear hszi hszw
  have HSZ : Hid (64 ≤ sz ∧ sz ≤ 1048576) := by have := HQ.out; constructor <;> omega
  go_enter Tryz.func3, Tryz.ntmps3
  go_wp2_with fail
  refine (HNEW.out).mono ?_
  rintro e w1 ⟨p, rfl, hl1, hb1⟩
  change Lies b w1 [.disk p (AD.fresh 4000000)] at hl1
  have HB1 := hide hb1
  have HL1 := hide hl1
  have HC1 := hide (wfirst_any w1 (HENV.out.below hb1) hl1.base)
  clear hl1 hb1
  go_wp2_with fail
  refine (HC1.out).mono ?_
  rintro e w2 ⟨rfl, hb2⟩
  have hl2 := HL1.out.below hb2
  have hbb2 := HB1.out.trans (hb2.mono HL1.out.base)
  obtain ⟨k, hk⟩ : ∃ y, w2.heap.size = y := ⟨_, rfl⟩
  obtain ⟨hl3, hb3⟩ := hl2.newCells #[.pointer (some ⟨p, 0, none⟩), .pointer none, .int .i64 sz, .int .i64 0, .slice none 0 0, .string ⟨#[]⟩, .bool false, .bool false] 32
  obtain ⟨W3, hW3⟩ : ∃ y, w2.alloc (.cells #[.pointer (some ⟨p, 0, none⟩), .pointer none, .int .i64 sz, .int .i64 0, .slice none 0 0, .string ⟨#[]⟩, .bool false, .bool false] 32) = y := ⟨_, rfl⟩
  rw [hW3, hk] at hl3
  rw [hW3] at hb3
  have hbb3 := hbb2.trans hb3
  have hc3 := hl3.cellAt (q := 1) (b := k) rfl 2
  change W3.cell? ⟨k, 2, none⟩ = some (.int .i64 sz) at hc3
  have HO := hide (open_some (i := 0) hl3 rfl (HENV.out.below hbb3) nmLog (by decide) sz 0 (kb4 HSZ.out) (by decide) (open_fresh sz HSZ.out.1 HSZ.out.2))
  have HB3 := hide hbb3
  clear hl2 hb2 hbb2 hl3 hb3 hbb3 HC1
  obtain ⟨hszi, hszw⟩ := HWS.out
  go_wp2_with fail
  clear hszi hszw
  refine (HO.out).mono ?_
  rintro e w4 ⟨l, ad4, cap4, rfl, hrow4, hl4, hb4⟩
  have hbb4 := HB3.out.trans hb4
  have hc4 := hl4.cellAt (q := 1) (b := k) (cs := #[.pointer (some ⟨p, 0, none⟩), .pointer none, .int .i64 sz, .int .i64 0, .slice none 0 0, .string ⟨#[]⟩, .bool false, .bool false]) (T := 32) rfl 1
  have hf4 := hl4.frozenAt (q := 1) (b := k) (cs := #[.pointer (some ⟨p, 0, none⟩), .pointer none, .int .i64 sz, .int .i64 0, .slice none 0 0, .string ⟨#[]⟩, .bool false, .bool false]) (T := 32) rfl 1
  change w4.cell? ⟨k, 1, none⟩ = some (.pointer none) at hc4
  obtain ⟨hl5, hb5⟩ := hl4.setAt (q := 1) (b := k) (cs := #[.pointer (some ⟨p, 0, none⟩), .pointer none, .int .i64 sz, .int .i64 0, .slice none 0 0, .string ⟨#[]⟩, .bool false, .bool false]) (T := 32) rfl 1 (.pointer (some ⟨l, 0, none⟩))
  obtain ⟨W5, hW5⟩ : ∃ y, w4.setCell ⟨k, 1, none⟩ (.pointer (some ⟨l, 0, none⟩)) = y := ⟨_, rfl⟩
  rw [hW5] at hl5 hb5
  have hl6 := toKL (c := .log l p ⟨nmLog, sz, [], 0, false⟩) hl5
  have HKM : Hid (KM b w k p sz 0 W5) := ⟨l, _, _, [], 0, _, ⟨#[]⟩, false, hl6, ks_fresh sz (hl6.ok (i := 0) rfl), by simp, hbb4.trans hb5⟩
  clear hl4 hb4 hbb4 hl5 hb5 hl6 hrow4 HO HNEW HL1
  obtain ⟨n, hn⟩ : ∃ n, os.length = n := ⟨_, rfl⟩
  rw [hn] at HLEN ⊢
  have HN := hide hn
  clear hn
  go_wp2
  go_loopw [10] (fun x wr => ∃ i : Nat, i ≤ n ∧ x = .int .i64 (i : Int) ∧ Hid (KM b w k p sz i wr)) (fun x _ => n - (intOf x).toNat)
  case atStart => exact ⟨0, by omega, rfl, HKM⟩
  case round =>
    clear HKM
    obtain ⟨i, hi, rfl, HKM⟩ := hrel
    by_cases hlt : i < n
    · have dk : decide ((i : Int) < (n : Int)) = true := decide_eq_true (by omega)
      have hk0 : (0 : Int) ≤ (i : Int) := by omega
      have hk1 : (i : Int) < (n : Int) := by omega
      have hkl : i < os.length := by have := HN.out; omega
      have HWI := hide (kb3 hlt HLEN.out)
      have hi1 : i + 1 ≤ n := hlt
      obtain ⟨l, A, g, acked, first, v, u, way, hL, hS, hM, hbr⟩ := HKM.out
      obtain ⟨o, ho⟩ : ∃ o, os[i]'hkl = o := ⟨_, rfl⟩
      have hok := HSC.out.ok o (by rw [← ho]; exact List.getElem_mem hkl)
      have hlie := HSC.out.lie o (by rw [← ho]; exact List.getElem_mem hkl)
      have hsz := HZ.out o (by rw [← ho]; exact List.getElem_mem hkl)
      obtain ⟨bb, oo, had, y0, y1, y2, y3, y4, y5, y6⟩ := (HSC.out.below hbr).cells i hkl
      rw [ho] at y0 y1 y2 y3 y4 y5 y6
      subst had
      clear ho
      have hcapA := hL.base
      obtain ⟨hL1, hb1⟩ := hL.newCells o.cs 37
      obtain ⟨bo, hbo⟩ : ∃ y, wr.heap.size = y := ⟨_, rfl⟩
      obtain ⟨W1, hW1⟩ : ∃ y, wr.alloc (.cells o.cs 37) = y := ⟨_, rfl⟩
      rw [hW1, hbo] at hL1
      rw [hW1] at hb1
      have hcl := hL1.cellAt (q := 4) (b := bo) (cs := o.cs) (T := 37) rfl
      have z0 : W1.cell? ⟨bo, 0, none⟩ = some (.int .i64 o.kind) := hcl 0
      have z1 : W1.cell? ⟨bo, 1, none⟩ = some (.string o.text) := hcl 1
      have z3 : W1.cell? ⟨bo, 3, none⟩ = some (.int .i64 o.at_) := hcl 3
      have z4 : W1.cell? ⟨bo, 4, none⟩ = some (.int .i64 o.n) := hcl 4
      have z5 : W1.cell? ⟨bo, 5, none⟩ = some (.int .i64 o.first) := hcl 5
      have z6 : W1.cell? ⟨bo, 6, none⟩ = some (.slice o.ad o.fates.length o.cap) := hcl 6
      have hbl : bo < W1.heap.size := block_lt_of_cell z0
      have hLL : Lies b W1 (KL k p l A g acked sz first v u way false) := hL1.drop
      have hbw : Below b w W1 := hbr.trans hb1
      have henv := HENV.out.below hbw
      have hnext := (kb1 hM hi HLEN.out).1
      have hkx : KXOk ⟨k, p, l, g, acked, sz, first, v, u, way, false, [], A.cap, false⟩ := ⟨HSZ.out.1, HSZ.out.2, hS.f0, hS.f1, (kb1 hM hi HLEN.out).2⟩
      have HFA := hide ((hlie.below hbw).at_)
      have HLL := hide hLL
      have HBW := hide hbw
      have HEV := hide henv
      have HNXT := hide hnext
      have HKX := hide hkx
      have HS := hide hS
      have HMM := hide hM
      have HOK := hide hok
      have HSZ2 := hide hsz
      have HBL := hide hbl
      have HW1 : Hid (wr.alloc (.cells #[.int .i64 o.kind, .string o.text, .string o.name, .int .i64 o.at_, .int .i64 o.n, .int .i64 o.first, .slice o.ad o.fates.length o.cap] 37) = W1) := hW1
      have HBO := hide hbo
      clear hL hL1 hb1 hcl hLL hbw henv hnext hkx hS hM hok hlie hsz hbl hbr hcapA hW1 hbo
      have hW1 := HW1.out
      have hbo := HBO.out
      go_upto_region 13 with fail
      clear hW1 hbo y0 y1 y2 y3 y4 y5 y6
      cases h1 : (o.kind == 1) with
      | true =>
        have HC := hide (appends_any HLL.out HEV.out HS.out o.text HNXT.out)
        go_wp2_with fail
        refine (HC.out).mono ?_
        rintro e w5 ⟨rfl, A5, g5, ak5, f5, v5, u5, way5, hl5, hs5, hn5, hb5⟩
        have HF : Hid (KM b w k p sz (i + 1) w5) := ⟨l, A5, g5, ak5, f5, v5, u5, way5, hl5, hs5, kb2 HMM.out (kb6 hn5), HBW.out.trans hb5⟩
        clear hl5 hs5 hn5 hb5
        have hwi := HWI.out
        go_wp2
        clear hwi
        go_roundw
        case rel => exact ⟨i + 1, hi1, by rw [HWI.out]; rfl, HF⟩
        case measure => exact kb8 hlt HWI.out
      | false =>
      cases h2 : (o.kind == 2) with
      | true =>
        cases way with
        | true =>
          have hoff : A.pow.off = true := (HS.out.wayc rfl).off
          have HC := s_off (i := 0) HLL.out rfl
          rw [hoff] at HC
          have HC := hide HC
          clear hoff
          go_wp2_with fail
          refine (HC.out).mono ?_
          rintro e w5 ⟨rfl, hw5⟩
          obtain rfl := hw5.symm
          have HF : Hid (KM b w k p sz (i + 1) W1) := ⟨l, A, g, acked, first, v, u, true, HLL.out, HS.out, kb2 HMM.out (kb7 (Int.le_refl _)), HBW.out⟩
          have hwi := HWI.out
          go_wp2
          clear hwi
          go_roundw
          case rel => exact ⟨i + 1, hi1, by rw [HWI.out]; rfl, HF⟩
          case measure => exact kb8 hlt HWI.out
        | false =>
          have hoff : A.pow.off = false := (HS.out.calm rfl).1
          have HC := s_off (i := 0) HLL.out rfl
          rw [hoff] at HC
          have HC := hide HC
          have HD := hide (resets_any HLL.out HEV.out HS.out o.first HNXT.out)
          clear hoff
          go_wp2_with fail
          refine (HC.out).mono ?_
          rintro e w5 ⟨rfl, hw5⟩
          obtain rfl := hw5.symm
          go_wp2_with fail
          refine (HD.out).mono ?_
          rintro e w6 ⟨rfl, A5, g5, ak5, f5, v5, u5, way5, hl5, hs5, hn5, hb5⟩
          have HF : Hid (KM b w k p sz (i + 1) w6) := ⟨l, A5, g5, ak5, f5, v5, u5, way5, hl5, hs5, kb2 HMM.out (kb7 hn5), HBW.out.trans hb5⟩
          clear hl5 hs5 hn5 hb5
          have hwi := HWI.out
          go_wp2
          clear hwi
          go_roundw
          case rel => exact ⟨i + 1, hi1, by rw [HWI.out]; rfl, HF⟩
          case measure => exact kb8 hlt HWI.out
      | false =>
      cases h4 : (o.kind == 4) with
      | true =>
        have HC := hide (s_arm (i := 0) HLL.out rfl o.n o.at_ ⟨HOK.out.n0, HOK.out.n1⟩)
        go_wp2_with fail
        refine (HC.out).mono ?_
        rintro e w5 ⟨rfl, hl5, hb5⟩
        have HF : Hid (KM b w k p sz (i + 1) w5) := ⟨l, A.armed o.n o.at_, g, acked, first, v, u, way, hl5, by unfold AD.armed; split <;> exact ks_pow HS.out rfl rfl, kb2 HMM.out (kb7 (Int.le_refl _)), HBW.out.trans hb5⟩
        clear hl5 hb5
        have hwi := HWI.out
        go_wp2
        clear hwi
        go_roundw
        case rel => exact ⟨i + 1, hi1, by rw [HWI.out]; rfl, HF⟩
        case measure => exact kb8 hlt HWI.out
      | false =>
      cases h5 : (o.kind == 5) with
      | true =>
        have HC := hide (s_fall (i := 0) HLL.out rfl o.n ⟨HOK.out.n0, HOK.out.n1⟩)
        go_wp2_with fail
        refine (HC.out).mono ?_
        rintro e w5 ⟨rfl, hl5, hb5⟩
        have HF : Hid (KM b w k p sz (i + 1) w5) := ⟨l, A.fallen o.n, g, acked, first, v, u, way, hl5, by unfold AD.fallen; exact ks_pow HS.out rfl rfl, kb2 HMM.out (kb7 (Int.le_refl _)), HBW.out.trans hb5⟩
        clear hl5 hb5
        have hwi := HWI.out
        go_wp2
        clear hwi
        go_roundw
        case rel => exact ⟨i + 1, hi1, by rw [HWI.out]; rfl, HF⟩
        case measure => exact kb8 hlt HWI.out
      | false =>
      cases h6 : (o.kind == 6) with
      | true =>
        obtain ⟨V0, hV0⟩ : ∃ y, W1.drew = y := ⟨_, rfl⟩
        have hv0 := HLL.out.same (w' := W1.drew) (Nat.le_refl _) (fun _ _ _ => rfl)
        rw [hV0] at hv0
        have hvb0 : Below b w V0 := by rw [← hV0]; exact HBW.out.drew
        have t4 : V0.cell? ⟨bo, 4, none⟩ = some (.int .i64 o.n) := by rw [← hV0]; exact z4
        have t6 : V0.cell? ⟨bo, 6, none⟩ = some (.slice o.ad o.fates.length o.cap) := by rw [← hV0]; exact z6
        have hfa0 : FatesAt V0 o.ad o.fates := by rw [← hV0]; exact HFA.out
        have hbl0 : bo < V0.heap.size := block_lt_of_cell t4
        obtain ⟨adf, capf, Z, W6, hrun, hl6, hfi, hb6⟩ := fates_copy hv0 o.ad o.cap o.fates hfa0 HSZ2.out.fates 35
        have s4 : W6.cell? ⟨bo, 4, none⟩ = some (.int .i64 o.n) := by rw [World.cell?_of_block (hb6.block bo hbl0)]; exact t4
        have hb6b : Below b w W6 := hvb0.trans (hb6.mono hv0.base)
        have HC := hide (kagain_any (x := ⟨k, p, l, g, acked, sz, first, v, u, way, false, Z, A.cap, forgedT o.fates⟩) (A := A) (ls := o.fates) (ad := adf) (capf := capf) hl6 (HENV.out.below hb6b) HS.out ⟨HKX.out.s0, HKX.out.s1, HKX.out.f0, HKX.out.f1, HKX.out.m⟩ rfl hfi HOK.out.fates HOK.out.len rfl o.n)
        obtain ⟨nf, hnf⟩ : ∃ y, o.fates.length = y := ⟨_, rfl⟩
        rw [hnf] at t6 hrun HC
        have HRUN := hide hrun
        have HV0 := hide hV0
        have HB6 := hide hb6b
        clear hv0 hvb0 hfa0 hbl0 hl6 hfi hb6 hb6b hrun hV0 hnf z1 z3 z4 z5 z6
        go_upto_region 25 with fail
        clear z0
        refine wp_region_noPanic ?_
        refine wp_region_held_drew (S := fun _ => True) (by kernel_rfl) trivial (fun hHeld => ?_)
        rw [HV0.out]
        refine tK 0 (some 104) (.pointer (some ⟨k, 0, none⟩)) rfl hHeld ?_
        simp only [Act.put, pA, pB, pC]
        refine tK 1 (some 105) (.pointer (some ⟨bo, 6, none⟩)) rfl hHeld ?_
        simp only [Act.put, pA, pB, pC]
        refine tK 4 (some 108) (.pointer (some ⟨bo, 4, none⟩)) rfl hHeld ?_
        simp only [Act.put, pA, pB, pC]
        refine wpAnyH_ready (rs := [2, 5]) (by kernel_rfl) (by simp) (AllReadyH.cons rfl (fun K hK => ?_) (AllReadyH.cons rfl (fun K hK => ?_) AllReadyH.nil))
        · rw [if_pos (by rfl)]
          refine wpRun (v := .slice o.ad nf o.cap) (w' := V0) (by simp only [execOp]; go_simp) ?_
          simp only [Act.put, pA, pB, pC]
          refine hK.out _ _ trivial (fun hH => ?_)
          clear hK K hHeld
          have hHeld := hH
          clear hH
          refine wpAnyH_ready (rs := [3, 5]) (by kernel_rfl) (by simp) (AllReadyH.cons rfl (fun K hK => ?_) (AllReadyH.cons rfl (fun K hK => ?_) AllReadyH.nil))
          · rw [if_pos (by rfl)]
            refine wpRun (run_append_op _ _ _ rfl HRUN.out) ?_
            simp only [Act.put, pA, pB, pC]
            refine hK.out _ _ trivial (fun hH => ?_)
            clear hK K hHeld
            have hHeld := hH
            clear hH
            refine rdH 5 rfl (fun K hK => ?_)
            refine wpRun (v := .int .i64 o.n) (w' := W6) (by have q := s4; simp only [execOp]; go_simp) ?_
            simp only [Act.put, pA, pB, pC]
            refine hK.out _ _ trivial (fun hH => ?_)
            clear hK K hHeld
            have hHeld := hH
            clear hH
            refine rdH 6 rfl (fun K hK => ?_)
            go_simp
            refine (HC.out).mono ?_
            rintro e w9 ⟨rfl, hb9, hpost⟩
            try go_wp2_with fail
            refine hK.out _ _ trivial (fun hH => ?_)
            clear hK K hHeld
            have hHeld := hH
            clear hH
            refine tK 7 (some 111) (.bool false) rfl hHeld ?_
            simp only [Act.put, pA, pB, pC]
            refine ⟨by kernel_rfl, ?_⟩
            refine NoPanic.normal ?_
            clear hHeld t4 t6 s4
            rcases hpost with ⟨A9, hl9⟩ | ⟨l9, A9, g9, pay9, v9, hl9, hs9, hn9⟩
            · have r7 := (KL.cells hl9).c7
              have HBF := hide (HB6.out.trans hb9)
              clear hl9 hb9
              go_wp2
              go_ret
              exact ⟨by simp, HBF.out⟩
            · have r7 := (KL.cells hl9).c7
              have HF : Hid (KM b w k p sz (i + 1) w9) := ⟨l9, A9, g9, pay9, first, v9, u, false, hl9, hs9, kb2 HMM.out hn9, HB6.out.trans hb9⟩
              clear hl9 hs9 hn9 hb9
              have hwi := HWI.out
              go_wp2
              clear hwi
              go_roundw
              case rel => exact ⟨i + 1, hi1, by rw [HWI.out]; rfl, HF⟩
              case measure => exact kb8 hlt HWI.out
          · rw [if_pos (by rfl)]
            refine wpRun (v := .int .i64 o.n) (w' := V0) (by have q := t4; simp only [execOp]; go_simp) ?_
            simp only [Act.put, pA, pB, pC]
            refine hK.out _ _ trivial (fun hH => ?_)
            clear hK K hHeld
            have hHeld := hH
            clear hH
            refine rdH 3 rfl (fun K hK => ?_)
            refine wpRun (run_append_op _ _ _ rfl HRUN.out) ?_
            simp only [Act.put, pA, pB, pC]
            refine hK.out _ _ trivial (fun hH => ?_)
            clear hK K hHeld
            have hHeld := hH
            clear hH
            refine rdH 6 rfl (fun K hK => ?_)
            go_simp
            refine (HC.out).mono ?_
            rintro e w9 ⟨rfl, hb9, hpost⟩
            try go_wp2_with fail
            refine hK.out _ _ trivial (fun hH => ?_)
            clear hK K hHeld
            have hHeld := hH
            clear hH
            refine tK 7 (some 111) (.bool false) rfl hHeld ?_
            simp only [Act.put, pA, pB, pC]
            refine ⟨by kernel_rfl, ?_⟩
            refine NoPanic.normal ?_
            clear hHeld t4 t6 s4
            rcases hpost with ⟨A9, hl9⟩ | ⟨l9, A9, g9, pay9, v9, hl9, hs9, hn9⟩
            · have r7 := (KL.cells hl9).c7
              have HBF := hide (HB6.out.trans hb9)
              clear hl9 hb9
              go_wp2
              go_ret
              exact ⟨by simp, HBF.out⟩
            · have r7 := (KL.cells hl9).c7
              have HF : Hid (KM b w k p sz (i + 1) w9) := ⟨l9, A9, g9, pay9, first, v9, u, false, hl9, hs9, kb2 HMM.out hn9, HB6.out.trans hb9⟩
              clear hl9 hs9 hn9 hb9
              have hwi := HWI.out
              go_wp2
              clear hwi
              go_roundw
              case rel => exact ⟨i + 1, hi1, by rw [HWI.out]; rfl, HF⟩
              case measure => exact kb8 hlt HWI.out
        · rw [if_pos (by rfl)]
          refine wpRun (v := .int .i64 o.n) (w' := V0) (by have q := t4; simp only [execOp]; go_simp) ?_
          simp only [Act.put, pA, pB, pC]
          refine hK.out _ _ trivial (fun hH => ?_)
          clear hK K hHeld
          have hHeld := hH
          clear hH
          refine rdH 2 rfl (fun K hK => ?_)
          refine wpRun (v := .slice o.ad nf o.cap) (w' := V0) (by simp only [execOp]; go_simp) ?_
          simp only [Act.put, pA, pB, pC]
          refine hK.out _ _ trivial (fun hH => ?_)
          clear hK K hHeld
          have hHeld := hH
          clear hH
          refine rdH 3 rfl (fun K hK => ?_)
          refine wpRun (run_append_op _ _ _ rfl HRUN.out) ?_
          simp only [Act.put, pA, pB, pC]
          refine hK.out _ _ trivial (fun hH => ?_)
          clear hK K hHeld
          have hHeld := hH
          clear hH
          refine rdH 6 rfl (fun K hK => ?_)
          go_simp
          refine (HC.out).mono ?_
          rintro e w9 ⟨rfl, hb9, hpost⟩
          try go_wp2_with fail
          refine hK.out _ _ trivial (fun hH => ?_)
          clear hK K hHeld
          have hHeld := hH
          clear hH
          refine tK 7 (some 111) (.bool false) rfl hHeld ?_
          simp only [Act.put, pA, pB, pC]
          refine ⟨by kernel_rfl, ?_⟩
          refine NoPanic.normal ?_
          clear hHeld t4 t6 s4
          rcases hpost with ⟨A9, hl9⟩ | ⟨l9, A9, g9, pay9, v9, hl9, hs9, hn9⟩
          · have r7 := (KL.cells hl9).c7
            have HBF := hide (HB6.out.trans hb9)
            clear hl9 hb9
            go_wp2
            go_ret
            exact ⟨by simp, HBF.out⟩
          · have r7 := (KL.cells hl9).c7
            have HF : Hid (KM b w k p sz (i + 1) w9) := ⟨l9, A9, g9, pay9, first, v9, u, false, hl9, hs9, kb2 HMM.out hn9, HB6.out.trans hb9⟩
            clear hl9 hs9 hn9 hb9
            have hwi := HWI.out
            go_wp2
            clear hwi
            go_roundw
            case rel => exact ⟨i + 1, hi1, by rw [HWI.out]; rfl, HF⟩
            case measure => exact kb8 hlt HWI.out
      | false =>
        have HF : Hid (KM b w k p sz (i + 1) W1) := ⟨l, A, g, acked, first, v, u, way, HLL.out, HS.out, kb2 HMM.out (kb7 (Int.le_refl _)), HBW.out⟩
        have hwi := HWI.out
        go_wp2
        clear hwi
        go_roundw
        case rel => exact ⟨i + 1, hi1, by rw [HWI.out]; rfl, HF⟩
        case measure => exact kb8 hlt HWI.out
    · have dk : decide ((i : Int) < (n : Int)) = false := decide_eq_false (by omega)
      obtain ⟨l, A, g, acked, first, v, u, way, hL, hS, hM, hbr⟩ := HKM.out
      have HG := hide (kagain_any (x := ⟨k, p, l, g, acked, sz, first, v, u, way, false, [], A.cap, forgedT []⟩) (A := A) (ls := []) (ad := none) (capf := 0) (by unfold KX.L; simp only; rw [List.append_nil]; exact hL) (HENV.out.below hbr) hS ⟨HSZ.out.1, HSZ.out.2, hS.f0, hS.f1, (kb1 hM hi HLEN.out).2⟩ rfl (.inl ⟨rfl, rfl, rfl, rfl⟩) (by simp) (by simp) rfl 0)
      have HBR := hide hbr
      clear hL hS hM hbr
      go_wp2_with fail
      refine (HG.out).mono ?_
      rintro e w9 ⟨rfl, hb9, _⟩
      go_wp2
      go_ret
      exact ⟨by simp, HBR.out.trans hb9⟩
end Go.Proofs.YtdffmmiegpndkaaGreatDoor
/-
  What the row's list gives (the library's tables and errors); a world for the rows' witnesses.
-/
namespace Go.Proofs.YtdffmmiegpndkaaGreatDoor
open Go.ChangeShapes Go.WideShapes Go.ChangeAt Go.RowKit
theorem gBru : Tryz.prog.globalNamed "math/bits.deBruijn64tab" = some 5 := by kernel_rfl
theorem tPow : (Tryz.prog.globals[2]?).map (·.type) = some 216 := by kernel_rfl
theorem tSyn : (Tryz.prog.globals[0]?).map (·.type) = some 133 := by kernel_rfl
theorem tRng : (Tryz.prog.globals[1]?).map (·.type) = some 133 := by kernel_rfl
theorem cellsP : Tryz.prog.cellsOf 216 = 20 := by kernel_rfl
theorem cellsU : Tryz.prog.cellsOf 123 = 1 := by kernel_rfl
theorem globs_six : Tryz.prog.globals.size = 6 := by kernel_rfl
theorem var_lt {W : World} {n : String} {g : Nat} {cs : Array Value} (hg : Tryz.prog.globalNamed n = some g) (h : W.var? Tryz.prog n = some cs) : g < W.heap.size := by
  unfold World.var? at h
  rw [hg] at h
  rcases Nat.lt_or_ge g W.heap.size with k | k
  · exact k
  · rw [Option.bind_some, Array.getElem?_eq_none k] at h; cases h
theorem laid_env {W : World} (h : laidMetH Tryz.prog Rows.walKeepsRow.laid W) : Env W.heap.size W := by
  have h' : laidMet Tryz.prog Rows.walKeepsRow.laid W := h
  obtain ⟨ps, ⟨g0, t0, cs0, f0, p0, q0, hg0, ht0, hv0, hd0, ⟨g1, t1, cs1, f1, p1, q1, hg1, ht1, hv1, hd1, ⟨g2, t2, cs2, f2, p2, q2, hg2, ht2, hv2, hd2, ⟨g3, t3, cs3, f3, p3, q3, hg3, ht3, hv3, hd3, ⟨g4, t4, cs4, f4, p4, q4, hg4, ht4, hv4, hd4, _, _⟩, _⟩, _⟩, _⟩, _⟩, _, _⟩ := h'
  obtain rfl := Option.some.inj (gPow.symm.trans hg2)
  obtain rfl := Option.some.inj (tPow.symm.trans ht2)
  obtain rfl := Option.some.inj (gRng.symm.trans hg3)
  obtain rfl := Option.some.inj (tRng.symm.trans ht3)
  obtain rfl := Option.some.inj (gSyn.symm.trans hg4)
  obtain rfl := Option.some.inj (tSyn.symm.trans ht4)
  have e2 := Lib.cells_of_tab Tryz.underlying216 Tryz.underlying123 cellsU cellsP (zs := Lib.pow10Tab) hd2
  obtain ⟨_, u3, v3, e3, _⟩ := iface_of_trod Tryz.underlying133 hd3
  obtain ⟨_, u4, v4, e4, _⟩ := iface_of_trod Tryz.underlying133 hd4
  refine ⟨?_, ⟨u4, v4, ?_⟩, ⟨u3, v3, ?_⟩, ?_⟩
  · unfold Lib.TabIs
    rw [hv2, ← e2]
  · rw [hv4]
    congr 1
    exact Array.ext' e4
  · rw [hv3]
    congr 1
    exact Array.ext' e3
  · have := var_lt gBru hv1
    rw [globs_six]
    omega
/-! ### the witness -/
def datumCells : DataW Unit → Array Value
  | .agg l => (l.map fun d => match d with
    | .lit (.int k z) => Value.int k z
    | .lit (.string s) => Value.string ⟨s.toArray⟩
    | _ => Value.bool false).toArray
  | _ => #[]
def errCells : DataW Unit → Array Value
  | .iface _ (.ptr d) => datumCells d
  | _ => #[]
def layCells (cs : Array Value) (o : Obj) : Obj := match o with
  | .cells _ t frozen => .cells cs t frozen
  | o => o
def laidWorldOf (w : World) : World :=
  { w with heap := (((((((w.heap.modify 2 (layCells (datumCells Rows.laid_internal_strconv_uint64pow10))).modify 4 (layCells (datumCells Rows.laid_math_bits_deBruijn32tab))).modify 5 (layCells (datumCells Rows.laid_math_bits_deBruijn64tab))).modify 0 (layCells #[.iface 220 (.pointer (some ⟨w.heap.size, 0, none⟩))])).modify 1 (layCells #[.iface 220 (.pointer (some ⟨w.heap.size + 1, 0, none⟩))])).push (.cells (errCells Rows.laid_strconv_ErrSyntax) 222)).push (.cells (errCells Rows.laid_strconv_ErrRange) 222)) }
set_option maxRecDepth 100000 in
theorem laid_met (os : Os) (args : Array Value) : laidMet Tryz.prog Rows.walKeepsRow.laid ((laidWorldOf (World.holding Tryz.prog os ⟨#[], #[], []⟩)).forCall (fun _ _ => 0) ⟨#[], args, []⟩).memory :=
  laidMet_of_run' 8 (by kernel_rfl) (by kernel_rfl)
end Go.Proofs.YtdffmmiegpndkaaGreatDoor
