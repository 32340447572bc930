/-
  same: of commands that say the same crashes.
-/
import Derived.Test.YtepgoehpjafbhaaGreatDoorSSm
import Derived.Deep.DeepCutAuto
namespace Go.Proofs.YtepgoehpjafbhaaGreatDoor
open Go.RowKit S
set_option linter.unusedVariables false
set_option linter.unusedSimpArgs false
set_option maxRecDepth 100000 in
set_option maxHeartbeats 40000000 in
theorem same_yes (k1 k2 : Nat) (V1 V2 : Nat → Value) (cap1 cap2 : Nat) (cs : List Cd) (w : World) (hz : ∀ (i : Nat) (c : Cd), cs[i]? = some c → Pz c.1 ∧ c.2.length ≤ 1000) (h1 : CsZ w k1 V1 cs) (h2 : CsZ w k2 V2 cs) (hl : cs.length ≤ 1000) :
    Calls Tryz.prog 14 #[.slice (some ⟨k1, 0, none⟩) cs.length cap1, .slice (some ⟨k2, 0, none⟩) cs.length cap2] w fun e w' => e = .returned (.bool true) ∧ Below w.heap.size w w' := by
  have H1 := hide h1
  have H2 := hide h2
  have HZ := hide hz
  clear h1 h2 hz
  go_enter Tryz.func14, Tryz.ntmps14
  go_wp2
  go_loopw [5] (fun v wr => ∃ i : Nat, i ≤ cs.length ∧ v = .int .i64 i ∧ Below w.heap.size w wr) (fun v _ => cs.length - (Lib.intOf v).toNat)
  case atStart => exact ⟨0, by omega, rfl, Below.refl _ _⟩
  case round =>
    obtain ⟨i, hi, rfl, hb⟩ := hrel
    have HB := hide hb
    have F1 := hide (H1.out.below hb)
    have F2 := hide (H2.out.below hb)
    have hwr := hb.size
    clear hb
    by_cases hlt : i < cs.length
    · have hd : decide ((i : Int) < (cs.length : Int)) = true := decide_eq_true (by omega)
      have hg : cs[i]? = some cs[i] := List.getElem?_eq_getElem hlt
      obtain ⟨hp, hfl⟩ := HZ.out i _ hg
      obtain ⟨A1, o1, a1, c1, v1, fz1⟩ := F1.out.2 i _ hg
      obtain ⟨A2, o2, a2, c2, v2, fz2⟩ := F2.out.2 i _ hg
      have hk1 := F1.out.1
      have hk2 := F2.out.1
      generalize cs[i] = c at hg hp hfl A1 A2 v1 v2 fz1 fz2
      obtain ⟨f, fs⟩ := c
      simp only at hp hfl A1 A2 v1 v2 fz1 fz2
      obtain ⟨f1, hf1⟩ : ∃ q, upd f 173 (V1 i) = q := ⟨_, rfl⟩
      obtain ⟨f2, hf2⟩ : ∃ q, upd f 173 (V2 i) = q := ⟨_, rfl⟩
      rw [hf1] at A1
      rw [hf2] at A2
      have p1 : One 176 f1 := by rw [← hf1]; exact hp.one.upd _ _ o1
      have p2 : One 176 f2 := by rw [← hf2]; exact hp.one.upd _ _ o2
      have HA1 := hide A1
      have HA2 := hide A2
      have P1 := hide p1
      have P2 := hide p2
      clear A1 A2 p1 p2 hg
      obtain ⟨w1a, hwa⟩ : ∃ z, wr.alloc (.cells Tryz.zeroCells40 40) = z := ⟨_, rfl⟩
      have ba : Below wr.heap.size wr w1a := by rw [← hwa]; exact (Below.refl _ wr).alloc (Nat.le_refl _) _
      have sa : w1a.heap.size = wr.heap.size + 1 := by rw [← hwa, size_alloc]
      have hNa : Has w1a wr.heap.size 40 zC 176 := by rw [← hwa, zeroC]; exact Has.new wr _ _ 176 _ rfl
      have HWa := hide hwa
      have HNa := hide hNa
      have hNb := hNa.row (tabv f1 176) f1 rfl
      have bb : Below wr.heap.size wr (w1a.setRow wr.heap.size (tabv f1 176)) := below_setRow ba (Nat.le_refl _) _
      have sb : (w1a.setRow wr.heap.size (tabv f1 176)).heap.size = wr.heap.size + 1 := by rw [← sa]; simp [World.setRow]
      have HNb := hide hNb
      have HBb := hide bb
      have HSb := hide sb
      have HSa := hide sa
      clear hwa ba hNa hNb bb sb sa
      go_upto_region 7 with (first
        | rw [HWa.out]
        | refine wpW_load_at 40 _ rfl k1 (i * 176) (by rfl) (by rfl) _ 176 _ HA1.out Tryz.underlying40 rfl infoC ?_
        | refine wpList_store_part rfl 40 _ _ rfl rfl wr.heap.size 0 f1 176 (by rfl) (by rfl) 40 zC 176 HNa.out (by omega) infoC P1.out f1 (fun i hi => by unfold splice; rw [if_pos (by omega), Nat.sub_zero]) ?_
        | fail)
      generalize hw1 : World.setRow w1a wr.heap.size (tabv f1 176) = w1 at HNb HBb HSb ⊢
      have N1 : Hid (Has w1 wr.heap.size 40 f1 176) := hide HNb.out
      have B1 : Hid (Below wr.heap.size wr w1) := hide HBb.out
      have S1 : Hid (w1.heap.size = wr.heap.size + 1) := hide HSb.out
      clear hw1 HNb HBb HSb HSa HNa HWa
      have HA2 := hide (HA2.out.blk (B1.out.block k2 hk2))
      obtain ⟨w2a, hwa⟩ : ∃ z, w1.alloc (.cells Tryz.zeroCells40 40) = z := ⟨_, rfl⟩
      have ba : Below w1.heap.size w1 w2a := by rw [← hwa]; exact (Below.refl _ w1).alloc (Nat.le_refl _) _
      have sa : w2a.heap.size = w1.heap.size + 1 := by rw [← hwa, size_alloc]
      have hNa : Has w2a w1.heap.size 40 zC 176 := by rw [← hwa, zeroC]; exact Has.new w1 _ _ 176 _ rfl
      have HWa := hide hwa
      have HNa := hide hNa
      have hNb := hNa.row (tabv f2 176) f2 rfl
      have bb : Below w1.heap.size w1 (w2a.setRow w1.heap.size (tabv f2 176)) := below_setRow ba (Nat.le_refl _) _
      have sb : (w2a.setRow w1.heap.size (tabv f2 176)).heap.size = w1.heap.size + 1 := by rw [← sa]; simp [World.setRow]
      have HNb := hide hNb
      have HBb := hide bb
      have HSb := hide sb
      have HSa := hide sa
      clear hwa ba hNa hNb bb sb sa
      go_upto_region 8 with (first
        | rw [HWa.out]
        | refine wpW_load_at 40 _ rfl k2 (i * 176) (by rfl) (by rfl) _ 176 _ HA2.out Tryz.underlying40 rfl infoC ?_
        | refine wpList_store_part rfl 40 _ _ rfl rfl w1.heap.size 0 f2 176 (by rfl) (by rfl) 40 zC 176 HNa.out (by omega) infoC P2.out f2 (fun i hi => by unfold splice; rw [if_pos (by omega), Nat.sub_zero]) ?_
        | fail)
      generalize hw2 : World.setRow w2a w1.heap.size (tabv f2 176) = w2 at HNb HBb HSb ⊢
      have N2 : Hid (Has w2 w1.heap.size 40 f2 176) := hide HNb.out
      have B2 : Hid (Below w1.heap.size w1 w2) := hide HBb.out
      have S2 : Hid (w2.heap.size = w1.heap.size + 1) := hide HSb.out
      clear hw2 HNb HBb HSb HSa HNa HWa
      have M1 := hide (N1.out.below B2.out N1.out.lt)
      have hn1 := N1.out.lt
      have hn2 := N2.out.lt
      obtain ⟨g1, hg1⟩ : ∃ q, (fun j => f1 (135 + j)) = q := ⟨_, rfl⟩
      obtain ⟨g2, hg2⟩ : ∃ q, (fun j => f2 (135 + j)) = q := ⟨_, rfl⟩
      have PS1 : Hid (One 39 g1) := hide (by rw [← hg1]; exact fun j hj => P1.out (135 + j) (by omega))
      have PS2 : Hid (One 39 g2) := hide (by rw [← hg2]; exact fun j hj => P2.out (135 + j) (by omega))
      have HG1 : Hid (At w2 wr.heap.size 135 g1 39) := hide (M1.out.at_ 135 (by omega) (fun j hj => by rw [← hg1]))
      have HG2 : Hid (At w2 w1.heap.size 135 g2 39) := hide (N2.out.at_ 135 (by omega) (fun j hj => by rw [← hg2]))
      have Hg1 := hide hg1
      have Hg2 := hide hg2
      clear hg1 hg2
      obtain ⟨w3a, hwa⟩ : ∃ z, w2.alloc (.cells #[.int .i64 0, .int .i64 0, .int .i64 0, .int .i64 0, .int .u8 0, .int .u8 0, .int .u8 0, .int .u8 0, .int .u8 0, .int .u8 0, .int .u8 0, .int .u8 0, .int .u8 0, .int .u8 0, .int .u8 0, .int .u8 0, .int .u8 0, .int .u8 0, .int .u8 0, .int .u8 0, .int .u8 0, .int .u8 0, .int .u8 0, .int .u8 0, .int .u8 0, .int .u8 0, .int .u8 0, .int .u8 0, .int .u8 0, .int .u8 0, .int .u8 0, .int .u8 0, .int .u8 0, .int .u8 0, .int .u8 0, .int .u8 0, .string ⟨#[]⟩, .string ⟨#[]⟩, .slice none 0 0] 33) = z := ⟨_, rfl⟩
      have ba : Below w2.heap.size w2 w3a := by rw [← hwa]; exact (Below.refl _ w2).alloc (Nat.le_refl _) _
      have sa : w3a.heap.size = w2.heap.size + 1 := by rw [← hwa, size_alloc]
      have hNa : Has w3a w2.heap.size 33 zS 39 := by rw [← hwa]; exact Has.new w2 _ _ 39 _ rfl
      have HWa := hide hwa
      have HNa := hide hNa
      have hNb := hNa.row (tabv g1 39) g1 rfl
      have bb : Below w2.heap.size w2 (w3a.setRow w2.heap.size (tabv g1 39)) := below_setRow ba (Nat.le_refl _) _
      have sb : (w3a.setRow w2.heap.size (tabv g1 39)).heap.size = w2.heap.size + 1 := by rw [← sa]; simp [World.setRow]
      have HNb := hide hNb
      have HBb := hide bb
      have HSb := hide sb
      have HSa := hide sa
      clear hwa ba hNa hNb bb sb sa
      go_upto_region 9 with (first
        | rw [HWa.out]
        | refine wpW_load_at 33 _ rfl wr.heap.size 135 (by rfl) (by rfl) _ 39 _ HG1.out Tryz.underlying33 rfl infoS ?_
        | refine wpList_store_part rfl 33 _ _ rfl rfl w2.heap.size 0 g1 39 (by rfl) (by rfl) 33 zS 39 HNa.out (by omega) infoS PS1.out g1 (fun i hi => by unfold splice; rw [if_pos (by omega), Nat.sub_zero]) ?_
        | fail)
      generalize hw3 : World.setRow w3a w2.heap.size (tabv g1 39) = w3 at HNb HBb HSb ⊢
      have N3 : Hid (Has w3 w2.heap.size 33 g1 39) := hide HNb.out
      have B3 : Hid (Below w2.heap.size w2 w3) := hide HBb.out
      have S3 : Hid (w3.heap.size = w2.heap.size + 1) := hide HSb.out
      clear hw3 HNb HBb HSb HSa HNa HWa
      have HG2 := hide (HG2.out.blk (B3.out.block w1.heap.size hn2))
      obtain ⟨w4a, hwa⟩ : ∃ z, w3.alloc (.cells #[.int .i64 0, .int .i64 0, .int .i64 0, .int .i64 0, .int .u8 0, .int .u8 0, .int .u8 0, .int .u8 0, .int .u8 0, .int .u8 0, .int .u8 0, .int .u8 0, .int .u8 0, .int .u8 0, .int .u8 0, .int .u8 0, .int .u8 0, .int .u8 0, .int .u8 0, .int .u8 0, .int .u8 0, .int .u8 0, .int .u8 0, .int .u8 0, .int .u8 0, .int .u8 0, .int .u8 0, .int .u8 0, .int .u8 0, .int .u8 0, .int .u8 0, .int .u8 0, .int .u8 0, .int .u8 0, .int .u8 0, .int .u8 0, .string ⟨#[]⟩, .string ⟨#[]⟩, .slice none 0 0] 33) = z := ⟨_, rfl⟩
      have ba : Below w3.heap.size w3 w4a := by rw [← hwa]; exact (Below.refl _ w3).alloc (Nat.le_refl _) _
      have sa : w4a.heap.size = w3.heap.size + 1 := by rw [← hwa, size_alloc]
      have hNa : Has w4a w3.heap.size 33 zS 39 := by rw [← hwa]; exact Has.new w3 _ _ 39 _ rfl
      have HWa := hide hwa
      have HNa := hide hNa
      have hNb := hNa.row (tabv g2 39) g2 rfl
      have bb : Below w3.heap.size w3 (w4a.setRow w3.heap.size (tabv g2 39)) := below_setRow ba (Nat.le_refl _) _
      have sb : (w4a.setRow w3.heap.size (tabv g2 39)).heap.size = w3.heap.size + 1 := by rw [← sa]; simp [World.setRow]
      have HNb := hide hNb
      have HBb := hide bb
      have HSb := hide sb
      have HSa := hide sa
      clear hwa ba hNa hNb bb sb sa
      go_upto_region 10 with (first
        | rw [HWa.out]
        | refine wpW_load_at 33 _ rfl w1.heap.size 135 (by rfl) (by rfl) _ 39 _ HG2.out Tryz.underlying33 rfl infoS ?_
        | refine wpList_store_part rfl 33 _ _ rfl rfl w3.heap.size 0 g2 39 (by rfl) (by rfl) 33 zS 39 HNa.out (by omega) infoS PS2.out g2 (fun i hi => by unfold splice; rw [if_pos (by omega), Nat.sub_zero]) ?_
        | fail)
      generalize hw4 : World.setRow w4a w3.heap.size (tabv g2 39) = w4 at HNb HBb HSb ⊢
      have N4 : Hid (Has w4 w3.heap.size 33 g2 39) := hide HNb.out
      have B4 : Hid (Below w3.heap.size w3 w4) := hide HBb.out
      have S4 : Hid (w4.heap.size = w3.heap.size + 1) := hide HSb.out
      clear hw4 HNb HBb HSb HSa HNa HWa
      have hs3 := S3.out
      have hs4 := S4.out
      have K1 := hide ((M1.out.below B3.out (by have := B2.out.size; omega)).below B4.out (by have := B2.out.size; have := B3.out.size; omega))
      have K2 := hide ((N2.out.below B3.out hn2).below B4.out (by omega))
      have hn3 := N3.out.lt
      have K3 := hide (N3.out.below B4.out hn3)
      clear hs3 hs4
      obtain ⟨k0, i0⟩ := hp.ok.int 0 (by decide)
      obtain ⟨k133, i133⟩ := hp.ok.int 133 (by decide)
      obtain ⟨k134, i134⟩ := hp.ok.int 134 (by decide)
      obtain ⟨k174, i174⟩ := hp.ok.int 174 (by decide)
      obtain ⟨k175, i175⟩ := hp.ok.int 175 (by decide)
      obtain ⟨k135, i135⟩ := hp.ok.int 135 (by decide)
      obtain ⟨k136, i136⟩ := hp.ok.int 136 (by decide)
      obtain ⟨k137, i137⟩ := hp.ok.int 137 (by decide)
      obtain ⟨k138, i138⟩ := hp.ok.int 138 (by decide)
      obtain ⟨k171, i171⟩ := hp.ok.str 171 (by decide)
      obtain ⟨k172, i172⟩ := hp.ok.str 172 (by decide)
      generalize kd (f 0) = x0 at k0
      generalize kd (f 133) = x133 at k133
      generalize kd (f 134) = x134 at k134
      generalize kd (f 135) = x135 at k135
      generalize kd (f 136) = x136 at k136
      generalize kd (f 137) = x137 at k137
      generalize kd (f 138) = x138 at k138
      generalize kd (f 174) = x174 at k174
      generalize kd (f 175) = x175 at k175
      generalize bs (sbv (f 171)) = x171 at k171
      generalize bs (sbv (f 172)) = x172 at k172
      have c1_0 : w4.cell? ⟨wr.heap.size, 0, none⟩ = some (.int .i64 x0) := by rw [K1.out.cell 0 (by omega), ← hf1]; show some (f 0) = _; rw [k0]
      have c2_0 : w4.cell? ⟨w1.heap.size, 0, none⟩ = some (.int .i64 x0) := by rw [K2.out.cell 0 (by omega), ← hf2]; show some (f 0) = _; rw [k0]
      have c1_133 : w4.cell? ⟨wr.heap.size, 133, none⟩ = some (.int .i64 x133) := by rw [K1.out.cell 133 (by omega), ← hf1]; show some (f 133) = _; rw [k133]
      have c2_133 : w4.cell? ⟨w1.heap.size, 133, none⟩ = some (.int .i64 x133) := by rw [K2.out.cell 133 (by omega), ← hf2]; show some (f 133) = _; rw [k133]
      have c1_134 : w4.cell? ⟨wr.heap.size, 134, none⟩ = some (.int .i64 x134) := by rw [K1.out.cell 134 (by omega), ← hf1]; show some (f 134) = _; rw [k134]
      have c2_134 : w4.cell? ⟨w1.heap.size, 134, none⟩ = some (.int .i64 x134) := by rw [K2.out.cell 134 (by omega), ← hf2]; show some (f 134) = _; rw [k134]
      have c1_174 : w4.cell? ⟨wr.heap.size, 174, none⟩ = some (.int .i64 x174) := by rw [K1.out.cell 174 (by omega), ← hf1]; show some (f 174) = _; rw [k174]
      have c2_174 : w4.cell? ⟨w1.heap.size, 174, none⟩ = some (.int .i64 x174) := by rw [K2.out.cell 174 (by omega), ← hf2]; show some (f 174) = _; rw [k174]
      have c1_175 : w4.cell? ⟨wr.heap.size, 175, none⟩ = some (.int .i64 x175) := by rw [K1.out.cell 175 (by omega), ← hf1]; show some (f 175) = _; rw [k175]
      have c2_175 : w4.cell? ⟨w1.heap.size, 175, none⟩ = some (.int .i64 x175) := by rw [K2.out.cell 175 (by omega), ← hf2]; show some (f 175) = _; rw [k175]
      have d1_135 : w4.cell? ⟨w2.heap.size, 0, none⟩ = some (.int .i64 x135) := by rw [K3.out.cell 0 (by omega), ← Hg1.out]; show some (f1 135) = _; rw [← hf1]; show some (f 135) = _; rw [k135]
      have d2_135 : w4.cell? ⟨w3.heap.size, 0, none⟩ = some (.int .i64 x135) := by rw [N4.out.cell 0 (by omega), ← Hg2.out]; show some (f2 135) = _; rw [← hf2]; show some (f 135) = _; rw [k135]
      have d1_136 : w4.cell? ⟨w2.heap.size, 1, none⟩ = some (.int .i64 x136) := by rw [K3.out.cell 1 (by omega), ← Hg1.out]; show some (f1 136) = _; rw [← hf1]; show some (f 136) = _; rw [k136]
      have d2_136 : w4.cell? ⟨w3.heap.size, 1, none⟩ = some (.int .i64 x136) := by rw [N4.out.cell 1 (by omega), ← Hg2.out]; show some (f2 136) = _; rw [← hf2]; show some (f 136) = _; rw [k136]
      have d1_137 : w4.cell? ⟨w2.heap.size, 2, none⟩ = some (.int .i64 x137) := by rw [K3.out.cell 2 (by omega), ← Hg1.out]; show some (f1 137) = _; rw [← hf1]; show some (f 137) = _; rw [k137]
      have d2_137 : w4.cell? ⟨w3.heap.size, 2, none⟩ = some (.int .i64 x137) := by rw [N4.out.cell 2 (by omega), ← Hg2.out]; show some (f2 137) = _; rw [← hf2]; show some (f 137) = _; rw [k137]
      have d1_138 : w4.cell? ⟨w2.heap.size, 3, none⟩ = some (.int .i64 x138) := by rw [K3.out.cell 3 (by omega), ← Hg1.out]; show some (f1 138) = _; rw [← hf1]; show some (f 138) = _; rw [k138]
      have d2_138 : w4.cell? ⟨w3.heap.size, 3, none⟩ = some (.int .i64 x138) := by rw [N4.out.cell 3 (by omega), ← Hg2.out]; show some (f2 138) = _; rw [← hf2]; show some (f 138) = _; rw [k138]
      have d1_171 : w4.cell? ⟨w2.heap.size, 36, none⟩ = some (.string x171) := by rw [K3.out.cell 36 (by omega), ← Hg1.out]; show some (f1 171) = _; rw [← hf1]; show some (f 171) = _; rw [k171]
      have d2_171 : w4.cell? ⟨w3.heap.size, 36, none⟩ = some (.string x171) := by rw [N4.out.cell 36 (by omega), ← Hg2.out]; show some (f2 171) = _; rw [← hf2]; show some (f 171) = _; rw [k171]
      have d1_172 : w4.cell? ⟨w2.heap.size, 37, none⟩ = some (.string x172) := by rw [K3.out.cell 37 (by omega), ← Hg1.out]; show some (f1 172) = _; rw [← hf1]; show some (f 172) = _; rw [k172]
      have d2_172 : w4.cell? ⟨w3.heap.size, 37, none⟩ = some (.string x172) := by rw [N4.out.cell 37 (by omega), ← Hg2.out]; show some (f2 172) = _; rw [← hf2]; show some (f 172) = _; rw [k172]
      have d1_173 : w4.cell? ⟨w2.heap.size, 38, none⟩ = some (V1 i) := by rw [K3.out.cell 38 (by omega), ← Hg1.out]; show some (f1 173) = _; rw [← hf1]; rfl
      rw [v1] at d1_173
      have d2_173 : w4.cell? ⟨w3.heap.size, 38, none⟩ = some (V2 i) := by rw [N4.out.cell 38 (by omega), ← Hg2.out]; show some (f2 173) = _; rw [← hf2]; rfl
      rw [v2] at d2_173
      have W1 : Hid (At w4 wr.heap.size 1 zW 132) := hide (fun j hj => by rw [K1.out.cell (1 + j) (by omega), ← hf1]; show some (upd f 173 (V1 i) (1 + j)) = some (zC (1 + j)); unfold S.upd; rw [if_neg (by omega), hp.wd _ (by omega) (by omega)])
      have W2 : Hid (At w4 w1.heap.size 1 zW 132) := hide (fun j hj => by rw [K2.out.cell (1 + j) (by omega), ← hf2]; show some (upd f 173 (V2 i) (1 + j)) = some (zC (1 + j)); unfold S.upd; rw [if_neg (by omega), hp.wd _ (by omega) (by omega)])
      have hzh : ∀ j, j < 32 → zC (139 + j) = bv (fun _ => 0) j := fun j hj => by unfold zC; rw [if_neg (by omega), if_neg (by omega), if_pos (by omega)]; rfl
      have X1 : Hid (At w4 w2.heap.size 4 (bv (fun _ => 0)) 32) := hide (fun j hj => by rw [K3.out.cell (4 + j) (by omega), ← Hg1.out, ← hzh j hj]; show some (f1 (135 + (4 + j))) = _; rw [← hf1]; unfold S.upd; rw [if_neg (by omega), hp.hs _ (by omega) (by omega)]; congr 2; omega)
      have X2 : Hid (At w4 w3.heap.size 4 (bv (fun _ => 0)) 32) := hide (fun j hj => by rw [N4.out.cell (4 + j) (by omega), ← Hg2.out, ← hzh j hj]; show some (f2 (135 + (4 + j))) = _; rw [← hf2]; unfold S.upd; rw [if_neg (by omega), hp.hs _ (by omega) (by omega)]; congr 2; omega)
      have B14 : Hid (Below wr.heap.size wr w4) := hide (((B1.out.trans (B2.out.mono (by have := B1.out.size; omega))).trans (B3.out.mono (by have := B1.out.size; have := B2.out.size; omega))).trans (B4.out.mono (by have := B1.out.size; have := B2.out.size; have := B3.out.size; omega)))
      have HBn : Hid (Below w.heap.size w w4) := hide (HB.out.trans (B14.out.mono hwr))
      have hcall := sameFates_yes a1 a2 c1 c2 fs w4 (fz1.below B14.out) (fz2.below B14.out) hfl
      have hsn : w.heap.size ≤ w4.heap.size := HBn.out.size
      clear hzh i0 i133 i134 i135 i136 i137 i138 i174 i175 i171 i172 k0 k133 k134 k135 k136 k137 k138 k174 k175 k171 k172 v1 v2 fz1 fz2 hf1 hf2
      go_wp2_with (first
        | refine wpW_load_at 38 _ rfl wr.heap.size 1 (by rfl) (by rfl) _ 132 _ W1.out Tryz.underlying38 rfl infoW ?_
        | refine wpW_load_at 38 _ rfl w1.heap.size 1 (by rfl) (by rfl) _ 132 _ W2.out Tryz.underlying38 rfl infoW ?_
        | refine wpW_load_at 30 _ rfl w2.heap.size 4 (by rfl) (by rfl) _ 32 _ X1.out Tryz.underlying30 rfl info26 ?_
        | refine wpW_load_at 30 _ rfl w3.heap.size 4 (by rfl) (by rfl) _ 32 _ X2.out Tryz.underlying30 rfl info26 ?_
        | refine wpW_neW (by rfl) _ _ rfl (by rfl) (by rfl) ?_
        | refine wpW_neH0 (by rfl) _ _ (fun _ => 0) rfl (by rfl) (by rfl) ?_
        | fail)
      refine hcall.mono ?_
      rintro e w5 ⟨rfl, b5⟩
      have HB5 : Hid (Below w.heap.size w w5) := hide (HBn.out.trans (b5.mono hsn))
      clear b5 hcall
      go_wp2
      refine ⟨⟨i + 1, by omega, by go_num, HB5.out⟩, ?_⟩
      simp [Lib.intOf]; omega
    · have hd : decide ((i : Int) < (cs.length : Int)) = false := decide_eq_false (by omega)
      go_wp2
      go_ret
      exact ⟨rfl, HB.out⟩
end Go.Proofs.YtepgoehpjafbhaaGreatDoor
