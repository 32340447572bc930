/-
  fields of the kinds 1 and 3, and of all (printed by gen_r21.py).
-/
import Derived.Test.YtlohfoggcdaeiaaGreatRCame
import Derived.Deep.DeepCutAuto
import Derived.Deep.Cut
namespace Go.Proofs.YtlohfoggcdaeiaaGreat
open Go.RowKit S
set_option linter.unusedVariables false
set_option linter.unusedSimpArgs false
open Cu (nb be hl ofL CW Mw CR Mr RS takeS takeA hOf nil8 doneS)
theorem FldP.rep {B : Nat} {R : Option (Rc × List Upd)} {e : Ending} {w : World} (h : FldP B R e w) : ∃ (rr : Rc) (bb : Bool), e = .returned (.tuple #[.agg (tabv rr.v 138), .bool bb]) ∧ ∀ (w' : World) (B' : Nat), B' ≤ B → (∀ k, B ≤ k → w'.heap[k]? = w.heap[k]?) → FldP B' R (.returned (.tuple #[.agg (tabv rr.v 138), .bool bb])) w' := by
  cases R with
  | none =>
    obtain ⟨r, rfl⟩ := h
    exact ⟨r, false, rfl, fun _ _ _ _ => ⟨r, rfl⟩⟩
  | some p =>
    obtain ⟨r, l⟩ := p
    obtain ⟨x, rfl, hO⟩ := h
    exact ⟨setU r x, true, rfl, fun w' B' hB he => ⟨x, rfl, (hO.same (fun k hk => he k (hO.lt k hk).1)).mono hB⟩⟩
set_option maxRecDepth 100000 in
set_option maxHeartbeats 40000000 in
theorem fields_1 (b : ByteArray) (w : World) (hk : (Cu.num 1 (b, 0) : Int) = 1) (hb : b.size ≤ 140737490000000) (h1 : 1 ≤ b.size) : Calls Tryz.prog 33 #[.string b] w fun e w' => FldP w.heap.size (fldOurs b) e w' ∧ Below w.heap.size w w' := by
  obtain ⟨w1, hW1⟩ : ∃ w1, w.alloc (.cells Tryz.zeroCells38 38) = w1 := ⟨_, rfl⟩
  have r1 : Has w1 w.heap.size 38 Rc.zero.v 138 := by rw [← hW1, zeroRc]; exact Has.new w 38 Rc.zero.v 138 _ rfl
  have b1 : Below w.heap.size w w1 := by rw [← hW1]; exact (Below.refl w.heap.size w).alloc (Nat.le_refl _) _
  go_enter Tryz.func33, Tryz.ntmps33
  go_wp2_with fail
  refine (Cu.rOpen b _).mono ?_
  rintro e w2 ⟨rfl, hC2, hb2, hs2⟩
  obtain ⟨p, hp⟩ : ∃ p, w1.heap.size = p := ⟨_, rfl⟩
  rw [hp] at hC2 ⊢
  have hgp : w.heap.size < p := by rw [← hp]; exact r1.lt
  have q1 := r1.below hb2 r1.lt
  have g2 : Below w.heap.size w w2 := b1.trans (hb2.mono b1.size)
  clear hW1 r1 b1 hb2 hs2 hp
  go_wp2_with fail
  refine (Cu.rU8 p (b, 0) _ hC2).mono ?_
  rintro e w3 ⟨rfl, hC3, hM3⟩
  have q3 := q1.mr hM3 (by omega)
  have g3 : Below w.heap.size w w3 := g2.trans (hM3.below (by omega) g2.size)
  obtain ⟨kn, hkn⟩ : ∃ kn, Cu.num 1 (b, 0) = kn := ⟨_, rfl⟩
  have hkl : kn < 256 := by rw [← hkn]; exact num1_le _
  rw [show be (takeA 1 (b, 0)).data.toList = kn from hkn]
  obtain ⟨st, hst⟩ : ∃ st, takeS 1 (b, 0) = st := ⟨_, rfl⟩
  rw [hst] at hC3
  have KC := hide (conv8i kn hkl)
  obtain ⟨w4, w5, hW4, q4, hW5, q5, b5⟩ := newRc w3 ⟨(kn : Int), Upd.zero, nilS, 0, 0, 0, z32, z32, z32, 0⟩
  have Q4 := hide q4
  have F5 : Hid (FB w p w3.heap.size st ⟨(kn : Int), Upd.zero, nilS, 0, 0, 0, z32, z32, z32, 0⟩ w5) := ⟨hC3.same (b5.block p hC3.lt), q3.below b5 q3.lt, q5, g3.trans (b5.mono g3.size), hgp, hC3.lt⟩
  have HKK : Hid ((kn : Int) = 1) := by show _ = _; rw [← hkn]; exact hk
  clear hk hkn hst hC2 hC3 hM3 q1 q3 g2 g3 q4 q5 b5
  go_upto_region 3 with (first | rw [hW5] | refine Cu.wpList_conv rfl _ _ _ rfl .u8 .i64 (kn : Int) (kn : Int) (by rfl) (KC.out _) ?_ | refine wpW_build (by rfl) 38 #[(0, .tmp 10)] rfl [(0, .int .i64 (kn : Int))] (by first | rfl | (simp [Act.eval, Act.put]; done)) _ (builtRK (kn : Int)) ?_ | refine wpList_storeRc rfl _ _ rfl rfl (w3.heap.size) (⟨(kn : Int), Upd.zero, nilS, 0, 0, 0, z32, z32, z32, 0⟩) rfl rfl _ Q4.out ?_ | fail)
  try rw [hW5]
  generalize hg5 : w3.heap.size = g5 at F5 ⊢
  clear hW4 hW5 hg5 Q4 KC
  obtain ⟨K, hKn⟩ : ∃ K : Int, (kn : Int) = K := ⟨_, rfl⟩
  rw [hKn] at F5 HKK ⊢
  have hK0 : 0 ≤ K ∧ K < 256 := by omega
  clear hKn hkl
  have c0 : w5.cell? ⟨g5, 0, none⟩ = some (.int .i64 K) := F5.out.var.cell 0 (by omega)
  have hK1 : K = 1 := HKK.out
  subst hK1
  clear HKK hK0
  go_wp2_with fail
  refine (oursFields_any b _ h1 hb).mono ?_
  rintro e w6 ⟨hP, hb6⟩
  obtain ⟨rr, bb, rfl, hPP⟩ := hP.rep
  have hR6 := F5.out.res.below hb6 F5.out.res.lt
  have hB6 : Below w.heap.size w w6 := F5.out.bel.trans (hb6.mono F5.out.bel.size)
  have hlt := F5.out.res.lt
  have K8 := hide hR6
  have HP := hide hPP
  clear hb6 hP hPP c0 F5
  go_wp2_with (first | refine wpList_storeRc rfl _ _ rfl rfl (w.heap.size) (rr) rfl rfl _ K8.out ?_ | fail)
  (try simp only [Exit.inBlock, Exit.then])
  exact bodyPost_ret (resRcB _ w.heap.size _ _ (.bool bb) 2 3 (K8.out.row _ rr.v rfl) rfl rfl _ rfl) rfl ⟨HP.out _ _ (by omega) (fun k hk => setRow_other _ _ _ _ (by omega)), below_setRow hB6 (Nat.le_refl _) _⟩
set_option maxRecDepth 100000 in
set_option maxHeartbeats 40000000 in
theorem fields_3 (b : ByteArray) (w : World) (hk : (Cu.num 1 (b, 0) : Int) = 3) (hb : b.size ≤ 140737490000000) : Calls Tryz.prog 33 #[.string b] w fun e w' => FldP w.heap.size (fldCame b) e w' ∧ Below w.heap.size w w' := by
  obtain ⟨w1, hW1⟩ : ∃ w1, w.alloc (.cells Tryz.zeroCells38 38) = w1 := ⟨_, rfl⟩
  have r1 : Has w1 w.heap.size 38 Rc.zero.v 138 := by rw [← hW1, zeroRc]; exact Has.new w 38 Rc.zero.v 138 _ rfl
  have b1 : Below w.heap.size w w1 := by rw [← hW1]; exact (Below.refl w.heap.size w).alloc (Nat.le_refl _) _
  go_enter Tryz.func33, Tryz.ntmps33
  go_wp2_with fail
  refine (Cu.rOpen b _).mono ?_
  rintro e w2 ⟨rfl, hC2, hb2, hs2⟩
  obtain ⟨p, hp⟩ : ∃ p, w1.heap.size = p := ⟨_, rfl⟩
  rw [hp] at hC2 ⊢
  have hgp : w.heap.size < p := by rw [← hp]; exact r1.lt
  have q1 := r1.below hb2 r1.lt
  have g2 : Below w.heap.size w w2 := b1.trans (hb2.mono b1.size)
  clear hW1 r1 b1 hb2 hs2 hp
  go_wp2_with fail
  refine (Cu.rU8 p (b, 0) _ hC2).mono ?_
  rintro e w3 ⟨rfl, hC3, hM3⟩
  have q3 := q1.mr hM3 (by omega)
  have g3 : Below w.heap.size w w3 := g2.trans (hM3.below (by omega) g2.size)
  obtain ⟨kn, hkn⟩ : ∃ kn, Cu.num 1 (b, 0) = kn := ⟨_, rfl⟩
  have hkl : kn < 256 := by rw [← hkn]; exact num1_le _
  rw [show be (takeA 1 (b, 0)).data.toList = kn from hkn]
  obtain ⟨st, hst⟩ : ∃ st, takeS 1 (b, 0) = st := ⟨_, rfl⟩
  rw [hst] at hC3
  have KC := hide (conv8i kn hkl)
  obtain ⟨w4, w5, hW4, q4, hW5, q5, b5⟩ := newRc w3 ⟨(kn : Int), Upd.zero, nilS, 0, 0, 0, z32, z32, z32, 0⟩
  have Q4 := hide q4
  have F5 : Hid (FB w p w3.heap.size st ⟨(kn : Int), Upd.zero, nilS, 0, 0, 0, z32, z32, z32, 0⟩ w5) := ⟨hC3.same (b5.block p hC3.lt), q3.below b5 q3.lt, q5, g3.trans (b5.mono g3.size), hgp, hC3.lt⟩
  have HKK : Hid ((kn : Int) = 3) := by show _ = _; rw [← hkn]; exact hk
  clear hk hkn hst hC2 hC3 hM3 q1 q3 g2 g3 q4 q5 b5
  go_upto_region 3 with (first | rw [hW5] | refine Cu.wpList_conv rfl _ _ _ rfl .u8 .i64 (kn : Int) (kn : Int) (by rfl) (KC.out _) ?_ | refine wpW_build (by rfl) 38 #[(0, .tmp 10)] rfl [(0, .int .i64 (kn : Int))] (by first | rfl | (simp [Act.eval, Act.put]; done)) _ (builtRK (kn : Int)) ?_ | refine wpList_storeRc rfl _ _ rfl rfl (w3.heap.size) (⟨(kn : Int), Upd.zero, nilS, 0, 0, 0, z32, z32, z32, 0⟩) rfl rfl _ Q4.out ?_ | fail)
  try rw [hW5]
  generalize hg5 : w3.heap.size = g5 at F5 ⊢
  clear hW4 hW5 hg5 Q4 KC
  obtain ⟨K, hKn⟩ : ∃ K : Int, (kn : Int) = K := ⟨_, rfl⟩
  rw [hKn] at F5 HKK ⊢
  have hK0 : 0 ≤ K ∧ K < 256 := by omega
  clear hKn hkl
  have c0 : w5.cell? ⟨g5, 0, none⟩ = some (.int .i64 K) := F5.out.var.cell 0 (by omega)
  have hK1 : K = 3 := HKK.out
  subst hK1
  clear HKK hK0
  go_wp2_with fail
  refine (cameFields_any b _ hb).mono ?_
  rintro e w6 ⟨hP, hb6⟩
  obtain ⟨rr, bb, rfl, hPP⟩ := hP.rep
  have hR6 := F5.out.res.below hb6 F5.out.res.lt
  have hB6 : Below w.heap.size w w6 := F5.out.bel.trans (hb6.mono F5.out.bel.size)
  have hlt := F5.out.res.lt
  have K8 := hide hR6
  have HP := hide hPP
  clear hb6 hP hPP c0 F5
  go_wp2_with (first | refine wpList_storeRc rfl _ _ rfl rfl (w.heap.size) (rr) rfl rfl _ K8.out ?_ | fail)
  (try simp only [Exit.inBlock, Exit.then])
  exact bodyPost_ret (resRcB _ w.heap.size _ _ (.bool bb) 2 3 (K8.out.row _ rr.v rfl) rfl rfl _ rfl) rfl ⟨HP.out _ _ (by omega) (fun k hk => setRow_other _ _ _ _ (by omega)), below_setRow hB6 (Nat.le_refl _) _⟩
def fldR (b : ByteArray) : Option (Rc × List Upd) := if Cu.num 1 (b, 0) = 1 then fldOurs b else if Cu.num 1 (b, 0) = 3 then fldCame b else fldO b
theorem num1_pos {b : ByteArray} (h : Cu.num 1 (b, 0) = 1) : 1 ≤ b.size := by
  apply Nat.pos_of_ne_zero
  intro h0
  have : b.data.toList = [] := List.eq_nil_of_length_eq_zero (by rw [str_len]; exact h0)
  have hb : b = ⟨#[]⟩ := by
    cases b with
    | mk d => cases d with | mk l => simp at this; subst this; rfl
  subst hb
  revert h
  decide
theorem fields_any (b : ByteArray) (w : World) (hb : b.size ≤ 140737490000000) : Calls Tryz.prog 33 #[.string b] w fun e w' => FldP w.heap.size (fldR b) e w' ∧ Below w.heap.size w w' := by
  unfold fldR
  by_cases h1 : Cu.num 1 (b, 0) = 1
  · rw [if_pos h1]
    exact fields_1 b w (by omega) hb (num1_pos h1)
  · rw [if_neg h1]
    by_cases h3 : Cu.num 1 (b, 0) = 3
    · rw [if_pos h3]
      exact fields_3 b w (by omega) hb
    · rw [if_neg h3]
      exact fields_o b w ⟨by omega, by omega⟩
theorem rcread_any (b : ByteArray) (w : World) (hb : b.size ≤ 140737490000000) : Calls Tryz.prog 12 #[.string b] w fun e w' => RdP w.heap.size (rdOf (fldR b)) e w' ∧ Below w.heap.size w w' :=
  read_gen b (fldR b) w (fun wx => fields_any b wx hb)
end Go.Proofs.YtlohfoggcdaeiaaGreat
